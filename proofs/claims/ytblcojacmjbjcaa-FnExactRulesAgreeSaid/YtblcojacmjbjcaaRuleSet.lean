/-
  The contracts of SettleBy, in the reference and in the program, for every board and all numbers.
-/
import Derived.Test.YtblcojacmjbjcaaRuleMv
import Derived.Test.YtblcojacmjbjcaaMergers

namespace Go.Proofs.Ytblcojacmjbjcaa
open Go.RowKit Plain
attribute [local go_sem] store_new
set_option linter.unusedVariables false
set_option linter.unusedSimpArgs false
theorem eqlBR (f g : Nat → Int) (w : World) : (binOp .eql 37 (.agg (mk 16 f)) (.agg (mk 16 g))).run Try.prog w = .ok (.bool (sameB f g)) w := by
  rw [run_eql_struct, eqB]; rfl
set_option maxHeartbeats 2000000 in
set_option maxRecDepth 20000 in
theorem specSettle10_any (f : Nat → Int) (d r : Int) (w : World) :
    Calls Try.prog 41 #[.agg (mk 16 f), .int .i64 d, .int .i64 r] w fun e w' => e = .returned (.tuple #[.agg (mk 16 (rtB f d r)), .int .i64 (rtN f d r), .bool (r10O f d r)]) ∧ Below w.heap.size w w' := by
  have z16 := zero16
  have K1 := (Blk.new w 16 f 37).alloc (.cells (mk 16 fun _ => 0) 37)
  have K2 := Blk.new (w.alloc (.cells (mk 16 f) 37)) 16 (fun _ => 0) 37
  have HB := Lib.hid (((Below.refl w.heap.size w).alloc (Nat.le_refl _) (.cells (mk 16 f) 37)).alloc (by simp) (.cells (mk 16 fun _ => 0) 37))
  simp only [World.size_alloc] at K2
  by_cases hV : Vd f
  · have HV := Lib.hid hV
    by_cases hD : 0 ≤ d ∧ d ≤ 3
    · have HD := Lib.hid hD
      by_cases hR : RlOk r
      · have HR := Lib.hid hR
        rw [(r10_yes (f := f) (d := d) (r := r) ⟨hV, hD, hR⟩).1, (rt_yes (f := f) (d := d) (r := r) ⟨hV, hD, hR⟩).1, (rt_yes (f := f) (d := d) (r := r) ⟨hV, hD, hR⟩).2]
        obtain ⟨c, rfl⟩ := Int.eq_ofNat_of_zero_le hD.1
        have hc : c < 4 := by omega
        rw [Int.toNat_natCast]
        have iE := eqlBR
        have iN := neqB
        have HMg := Lib.hid (mgFn r)
        clear hV hD hR
        go_enter Try.func41, Try.ntmps41
        go_wp2_with (first | ((with_reducible show wpList _ _ _ (Oper.mk _ (Op.load 37 _) _ _ _ _ :: _) _ _); refine loadB (K1) rfl rfl rfl ?_) | ((with_reducible show wpList _ _ _ (Oper.mk _ (Op.load 37 _) _ _ _ (some _) :: _) _ _); refine loadgB (K1) rfl rfl rfl ?_))
        refine (l2Board_yes _ _ HV.out).mono ?_
        rintro e wg1 ⟨rfl, hb⟩
        have K1 := K1.below hb K1.lt
        have K2 := K2.below hb K2.lt
        have HB : Hid (Below w.heap.size w wg1) := HB.out.trans (hb.mono HB.out.size)
        clear hb
        go_wp2_with (first | ((with_reducible show wpList _ _ _ (Oper.mk _ (Op.load 37 _) _ _ _ _ :: _) _ _); refine loadB (K1) rfl rfl rfl ?_) | ((with_reducible show wpList _ _ _ (Oper.mk _ (Op.load 37 _) _ _ _ (some _) :: _) _ _); refine loadgB (K1) rfl rfl rfl ?_))
        refine (l2Side_yes _ _ HD.out.1 HD.out.2).mono ?_
        rintro e wg2 ⟨rfl, rfl⟩
        go_wp2_with (first | ((with_reducible show wpList _ _ _ (Oper.mk _ (Op.load 37 _) _ _ _ _ :: _) _ _); refine loadB (K1) rfl rfl rfl ?_) | ((with_reducible show wpList _ _ _ (Oper.mk _ (Op.load 37 _) _ _ _ (some _) :: _) _ _); refine loadgB (K1) rfl rfl rfl ?_))
        refine (l10Rule_yes r _ HR.out).mono ?_
        rintro e wg3 ⟨rfl, rfl⟩
        go_wp2_with fail
        have HF0 : Hid (farB (rIt (mgF r) f c 0) c < ((65 : Nat) : Int)) := by have := farB_bd (rIt (mgF r) f c 0) c; show _ < _; omega
        go_loopg [9] 65 (fun g s9 wr => ∃ k : Nat, s9 = .int .i64 (k : Int) ∧ Hid (farB (rIt (mgF r) f c k) c < (g : Int)) ∧ Hid (rLs (mgF r) f c g k = rSt (mgF r) f c) ∧ Blk wr w.heap.size 16 (rIt (mgF r) f c k) 37 ∧ Blk wr (w.heap.size + 1) 16 (fun _ => 0) 37 ∧ Hid (Below w.heap.size w wr))
        case atStart => exact ⟨0, rfl, HF0, rfl, K1, K2, HB⟩
        case round =>
          clear HF0 K1 K2 HB
          obtain ⟨k, rfl, HF, HLs, K1, K2, HB⟩ := hrel
          have HVk := Lib.hid (rIt_vd HMg.out HV.out c k)
          have HVk2 := Lib.hid (rIt_vd HMg.out HV.out c (k + 1))
          have hk65 : k ≤ 65 := by
            have h1 := (rLs_le (mgF r) f c gk k).1
            have h2 := (rLs_le (mgF r) f c 65 0).2
            have h3 : rLs (mgF r) f c gk k = rLs (mgF r) f c 65 0 := HLs.out
            omega
          cases gk with
          | zero => have h1 := HF.out; have h2 := farB_bd (rIt (mgF r) f c k) c; exact absurd h1 (by simp; omega)
          | succ g =>
            have HFr := Lib.hid (rB_far HMg.out HVk.out c)
            have HYes := Lib.hid (rLs_yes (m := mgF r) (f := f) (d := c) (g := g) (k := k))
            have HNo := Lib.hid (rLs_no (m := mgF r) (f := f) (d := c) (g := g) (k := k))
            have HIt : Hid (rIt (mgF r) f c (k + 1) = rB (mgF r) (rIt (mgF r) f c k) c) := rfl
            have HV9 : Hid (Vd (rB (mgF r) (rIt (mgF r) f c k) c)) := HVk2.out
            generalize hcur : rIt (mgF r) f c k = u at *
            go_wp2_with (first | ((with_reducible show wpList _ _ _ (Oper.mk _ (Op.load 37 _) _ _ _ _ :: _) _ _); refine loadB (K1) rfl rfl rfl ?_))
            refine (l10Slide_any u c r _ HR.out HVk.out hc).mono ?_
            rintro e w5 ⟨rfl, hb⟩
            have HL : Hid (w.heap.size + 1 < w5.heap.size) := (K2.below hb K2.lt).lt
            have K1 := (K1.below hb K1.lt).alloc (.cells (mk 16 (rB (mgF r) u c)) 37)
            have K2 := (K2.below hb K2.lt).alloc (.cells (mk 16 (rB (mgF r) u c)) 37)
            have K8 := Blk.new w5 16 (rB (mgF r) u c) 37
            have HB : Hid (Below w.heap.size w w5) := HB.out.trans (hb.mono HB.out.size)
            have HB : Hid (Below w.heap.size w (w5.alloc (.cells (mk 16 (rB (mgF r) u c)) 37))) := HB.out.alloc HB.out.size _
            clear hb
            cases hs : sameB (rB (mgF r) u c) u with
            | true =>
              have HEnd : Hid (k = rSt (mgF r) f c) := by rw [← HLs.out]; exact (HYes.out hs).symm
              go_wp2_with (first | ((with_reducible show wpList _ _ _ (Oper.mk _ (Op.load 37 _) _ _ _ _ :: _) _ _); refine loadB (K8) rfl rfl rfl ?_) | ((with_reducible show wpList _ _ _ (Oper.mk _ (Op.load 37 _) _ _ _ _ :: _) _ _); refine loadB (K1) rfl rfl rfl ?_) | ((with_reducible show wpList _ _ _ (Oper.mk _ (Op.store 37 _ _) _ _ _ _ :: _) _ _); refine storeB (K2) rfl rfl rfl rfl ?_))
              try simp only [Exit.inBlock, Exit.then]
              refine retcttB (K2.row 16 _) rfl rfl rfl ⟨?_, below_setRow HB.out (by omega) _⟩
              rw [← HEnd.out, hcur]
              rfl
            | false =>
              have HLs2 : Hid (rLs (mgF r) f c g (k + 1) = rSt (mgF r) f c) := by rw [← HLs.out]; exact (HNo.out hs).symm
              have HF2 : Hid (farB (rIt (mgF r) f c (k + 1)) c < (g : Int)) := by have h1 := HFr.out hs; have h2 := HF.out; rw [HIt.out]; show _ < _; push_cast at h2; omega
              go_wp2_with (first | ((with_reducible show wpList _ _ _ (Oper.mk _ (Op.load 37 _) _ _ _ _ :: _) _ _); refine loadB (K8) rfl rfl rfl ?_) | ((with_reducible show wpList _ _ _ (Oper.mk _ (Op.load 37 _) _ _ _ _ :: _) _ _); refine loadB (K1) rfl rfl rfl ?_) | ((with_reducible show wpList _ _ _ (Oper.mk _ (Op.store 37 _ _) _ _ _ _ :: _) _ _); refine storeB (K1) rfl rfl rfl rfl ?_))
              go_roundg g
              case rel =>
                refine ⟨k + 1, by go_num, HF2, HLs2, ?_, K2.rowOther _ _ (by omega), below_setRow HB.out (by omega) _⟩
                rw [HIt.out]
                exact K1.row 16 _
              case measure => omega
      · rw [(r10_no (f := f) (d := d) (r := r) fun h => hR h.2.2).1, (rt_no (f := f) (d := d) (r := r) fun h => hR h.2.2).1, (rt_no (f := f) (d := d) (r := r) fun h => hR h.2.2).2]
        have HR := Lib.hid hR
        clear hV hD hR
        go_enter Try.func41, Try.ntmps41
        go_wp2_with (first | ((with_reducible show wpList _ _ _ (Oper.mk _ (Op.load 37 _) _ _ _ _ :: _) _ _); refine loadB (K1) rfl rfl rfl ?_) | ((with_reducible show wpList _ _ _ (Oper.mk _ (Op.load 37 _) _ _ _ (some _) :: _) _ _); refine loadgB (K1) rfl rfl rfl ?_))
        refine (l2Board_yes _ _ HV.out).mono ?_
        rintro e wg1 ⟨rfl, hb⟩
        have K1 := K1.below hb K1.lt
        have K2 := K2.below hb K2.lt
        have HB : Hid (Below w.heap.size w wg1) := HB.out.trans (hb.mono HB.out.size)
        clear hb
        go_wp2_with (first | ((with_reducible show wpList _ _ _ (Oper.mk _ (Op.load 37 _) _ _ _ _ :: _) _ _); refine loadB (K1) rfl rfl rfl ?_) | ((with_reducible show wpList _ _ _ (Oper.mk _ (Op.load 37 _) _ _ _ (some _) :: _) _ _); refine loadgB (K1) rfl rfl rfl ?_))
        refine (l2Side_yes _ _ HD.out.1 HD.out.2).mono ?_
        rintro e wg2 ⟨rfl, rfl⟩
        go_wp2_with (first | ((with_reducible show wpList _ _ _ (Oper.mk _ (Op.load 37 _) _ _ _ _ :: _) _ _); refine loadB (K1) rfl rfl rfl ?_) | ((with_reducible show wpList _ _ _ (Oper.mk _ (Op.load 37 _) _ _ _ (some _) :: _) _ _); refine loadgB (K1) rfl rfl rfl ?_))
        refine (l10Rule_no r _ HR.out).mono ?_
        rintro e wg3 ⟨rfl, rfl⟩
        go_wp2_with ((with_reducible show wpList _ _ _ (Oper.mk _ (Op.store 37 _ _) _ _ _ _ :: _) _ _); refine storeB (K2) rfl rfl rfl rfl ?_)
        try simp only [Exit.inBlock, Exit.then]
        exact retcttB (K2.row 16 _) rfl rfl rfl ⟨rfl, below_setRow HB.out (by omega) _⟩
    · rw [(r10_no (f := f) (d := d) (r := r) fun h => hD h.2.1).1, (rt_no (f := f) (d := d) (r := r) fun h => hD h.2.1).1, (rt_no (f := f) (d := d) (r := r) fun h => hD h.2.1).2]
      have HD := Lib.hid (show d < 0 ∨ 3 < d by omega)
      clear hV hD
      go_enter Try.func41, Try.ntmps41
      go_wp2_with (first | ((with_reducible show wpList _ _ _ (Oper.mk _ (Op.load 37 _) _ _ _ _ :: _) _ _); refine loadB (K1) rfl rfl rfl ?_) | ((with_reducible show wpList _ _ _ (Oper.mk _ (Op.load 37 _) _ _ _ (some _) :: _) _ _); refine loadgB (K1) rfl rfl rfl ?_))
      refine (l2Board_yes _ _ HV.out).mono ?_
      rintro e wg1 ⟨rfl, hb⟩
      have K1 := K1.below hb K1.lt
      have K2 := K2.below hb K2.lt
      have HB : Hid (Below w.heap.size w wg1) := HB.out.trans (hb.mono HB.out.size)
      clear hb
      go_wp2_with (first | ((with_reducible show wpList _ _ _ (Oper.mk _ (Op.load 37 _) _ _ _ _ :: _) _ _); refine loadB (K1) rfl rfl rfl ?_) | ((with_reducible show wpList _ _ _ (Oper.mk _ (Op.load 37 _) _ _ _ (some _) :: _) _ _); refine loadgB (K1) rfl rfl rfl ?_))
      refine (l2Side_no _ _ HD.out).mono ?_
      rintro e wg2 ⟨rfl, rfl⟩
      go_wp2_with ((with_reducible show wpList _ _ _ (Oper.mk _ (Op.store 37 _ _) _ _ _ _ :: _) _ _); refine storeB (K2) rfl rfl rfl rfl ?_)
      try simp only [Exit.inBlock, Exit.then]
      exact retcttB (K2.row 16 _) rfl rfl rfl ⟨rfl, below_setRow HB.out (by omega) _⟩
  · rw [(r10_no (f := f) (d := d) (r := r) fun h => hV h.1).1, (rt_no (f := f) (d := d) (r := r) fun h => hV h.1).1, (rt_no (f := f) (d := d) (r := r) fun h => hV h.1).2]
    have HV := Lib.hid hV
    clear hV
    go_enter Try.func41, Try.ntmps41
    go_wp2_with (first | ((with_reducible show wpList _ _ _ (Oper.mk _ (Op.load 37 _) _ _ _ _ :: _) _ _); refine loadB (K1) rfl rfl rfl ?_) | ((with_reducible show wpList _ _ _ (Oper.mk _ (Op.load 37 _) _ _ _ (some _) :: _) _ _); refine loadgB (K1) rfl rfl rfl ?_))
    refine (l2Board_no _ _ HV.out).mono ?_
    rintro e wg1 ⟨rfl, hb⟩
    have K1 := K1.below hb K1.lt
    have K2 := K2.below hb K2.lt
    have HB : Hid (Below w.heap.size w wg1) := HB.out.trans (hb.mono HB.out.size)
    clear hb
    go_wp2_with ((with_reducible show wpList _ _ _ (Oper.mk _ (Op.store 37 _ _) _ _ _ _ :: _) _ _); refine storeB (K2) rfl rfl rfl rfl ?_)
    try simp only [Exit.inBlock, Exit.then]
    exact retcttB (K2.row 16 _) rfl rfl rfl ⟨rfl, below_setRow HB.out (by omega) _⟩
set_option maxHeartbeats 2000000 in
set_option maxRecDepth 20000 in
theorem implSettle10_any (f : Nat → Int) (d r : Int) (w : World) :
    Calls Try.prog 42 #[.agg (mk 16 f), .int .i64 d, .int .i64 r] w fun e w' => e = .returned (.tuple #[.agg (mk 16 (rtB f d r)), .int .i64 (rtN f d r), .bool (r10O f d r)]) ∧ Below w.heap.size w w' := by
  have z16 := zero16
  have K1 := (Blk.new w 16 f 37).alloc (.cells (mk 16 fun _ => 0) 37)
  have K2 := Blk.new (w.alloc (.cells (mk 16 f) 37)) 16 (fun _ => 0) 37
  have HB := Lib.hid (((Below.refl w.heap.size w).alloc (Nat.le_refl _) (.cells (mk 16 f) 37)).alloc (by simp) (.cells (mk 16 fun _ => 0) 37))
  simp only [World.size_alloc] at K2
  by_cases hR : RlOk r
  · have HR := Lib.hid hR
    have HX := Lib.hid (merges_any r hR)
    have CL : Hid (∀ W, Calls Try.prog 51 #[.int .i64 r] W fun e w' => e = .returned (.tuple #[.iface 112 (.agg #[inR r]), .bool true]) ∧ Below W.heap.size W w') := fun W => lawOf_at r W hR
    generalize inR r = x at *
    by_cases hV : Vd f
    · have HV := Lib.hid hV
      by_cases hD : 0 ≤ d ∧ d ≤ 3
      · have HD := Lib.hid hD
        rw [(r10_yes (f := f) (d := d) (r := r) ⟨hV, hD, hR⟩).1, (rt_yes (f := f) (d := d) (r := r) ⟨hV, hD, hR⟩).1, (rt_yes (f := f) (d := d) (r := r) ⟨hV, hD, hR⟩).2]
        obtain ⟨c, rfl⟩ := Int.eq_ofNat_of_zero_le hD.1
        have hc : c < 4 := by omega
        rw [Int.toNat_natCast]
        have iE := eqlBR
        have iN := neqB
        have HMg := Lib.hid (mgFn r)
        clear hV hD hR
        go_enter Try.func42, Try.ntmps42
        go_wp2_with (first | ((with_reducible show wpList _ _ _ (Oper.mk _ (Op.load 37 _) _ _ _ _ :: _) _ _); refine loadB (K1) rfl rfl rfl ?_) | ((with_reducible show wpList _ _ _ (Oper.mk _ (Op.load 37 _) _ _ _ (some _) :: _) _ _); refine loadgB (K1) rfl rfl rfl ?_))
        refine (CL.out _).mono ?_
        rintro e wg1 ⟨rfl, hb⟩
        have K1 := K1.below hb K1.lt
        have K2 := K2.below hb K2.lt
        have HB : Hid (Below w.heap.size w wg1) := HB.out.trans (hb.mono HB.out.size)
        clear hb
        go_wp2_with (first | ((with_reducible show wpList _ _ _ (Oper.mk _ (Op.load 37 _) _ _ _ _ :: _) _ _); refine loadB (K1) rfl rfl rfl ?_) | ((with_reducible show wpList _ _ _ (Oper.mk _ (Op.load 37 _) _ _ _ (some _) :: _) _ _); refine loadgB (K1) rfl rfl rfl ?_))
        refine (implBoard_yes _ _ HV.out).mono ?_
        rintro e wg2 ⟨rfl, hb⟩
        have K1 := K1.below hb K1.lt
        have K2 := K2.below hb K2.lt
        have HB : Hid (Below w.heap.size w wg2) := HB.out.trans (hb.mono HB.out.size)
        clear hb
        go_wp2_with (first | ((with_reducible show wpList _ _ _ (Oper.mk _ (Op.load 37 _) _ _ _ _ :: _) _ _); refine loadB (K1) rfl rfl rfl ?_) | ((with_reducible show wpList _ _ _ (Oper.mk _ (Op.load 37 _) _ _ _ (some _) :: _) _ _); refine loadgB (K1) rfl rfl rfl ?_))
        refine (isDirection_yes _ _ HD.out.1 HD.out.2).mono ?_
        rintro e wg3 ⟨rfl, rfl⟩
        go_wp2_with fail
        have KL : Hid (w.heap.size + 1 < wg2.heap.size) := K2.lt
        refine wp_region_held_drew (S := fun W => Blk W w.heap.size 16 f 37) (by kernel_rfl) (K1.drew) (fun hHeld => ?_)
        have K1 : Blk wg2.drew w.heap.size 16 f 37 := K1.drew
        have BX : Hid (Below wg2.heap.size wg2 wg2.drew) := (Below.refl _ wg2).drew
        have LK : Hid (w.heap.size < wg2.heap.size) := K1.lt
        generalize wg2.drew = x0 at *
        refine wpAnyH_take (i := 0) (oi := { dst := some 33, op := _, type := _, pos := _, after := _, guard := _ }) (v := .agg (mk 16 f)) rfl (by kernel_rfl) (by kernel_rfl) (by kernel_rfl) (fun _ _ _ h => h) (Or.inl ⟨by rfl, fun _ q => execB q rfl rfl⟩) (by assumption) ?_
        try simp only [Act.put, List.setIfInBounds_toArray, List.set_cons_zero, List.set_cons_succ]
        refine wpAnyH_take (i := 1) (oi := { dst := some 34, op := _, type := _, pos := _, after := _, guard := _ }) (v := .int .i64 (c : Int)) rfl (by kernel_rfl) (by kernel_rfl) (by kernel_rfl) (fun _ _ _ h => h) (Or.inl ⟨by rfl, by intro w hSw; clear hSw; go_simp; (try with_reducible rfl)⟩) (by assumption) ?_
        try simp only [Act.put, List.setIfInBounds_toArray, List.set_cons_zero, List.set_cons_succ]
        refine wpAnyH_take (i := 2) (oi := { dst := some 35, op := _, type := _, pos := _, after := _, guard := _ }) (v := .iface 112 (.agg #[x])) rfl (by kernel_rfl) (by kernel_rfl) (by kernel_rfl) (fun _ _ _ h => h) (Or.inl ⟨by rfl, by intro w hSw; clear hSw; go_simp; (try with_reducible rfl)⟩) (by assumption) ?_
        try simp only [Act.put, List.setIfInBounds_toArray, List.set_cons_zero, List.set_cons_succ]
        refine wpAnyH_take (i := 3) (oi := { dst := some 36, op := _, type := _, pos := _, after := _, guard := _ }) (v := .iface 112 (.agg #[x])) rfl (by kernel_rfl) (by kernel_rfl) (by kernel_rfl) (fun _ _ _ h => h) (Or.inl ⟨by rfl, by intro w hSw; clear hSw; go_simp; (try with_reducible rfl)⟩) (by assumption) ?_
        try simp only [Act.put, List.setIfInBounds_toArray, List.set_cons_zero, List.set_cons_succ]
        refine wpAnyH_take (i := 4) (oi := { dst := some 37, op := _, type := _, pos := _, after := _, guard := _ }) (v := .func (.method "loop.example/g01194/impl.merge") #[.iface 112 (.agg #[x])] #[]) rfl (by kernel_rfl) (by kernel_rfl) (by kernel_rfl) (fun _ _ _ h => h) (Or.inl ⟨by rfl, by intro w hSw; clear hSw; go_simp; (try with_reducible rfl)⟩) (by assumption) ?_
        try simp only [Act.put, List.setIfInBounds_toArray, List.set_cons_zero, List.set_cons_succ]
        refine wpAnyH_ready (rs := [5, 9]) (by kernel_rfl) (by simp) ?_
        refine AllReadyH.cons rfl (fun K hK => ?_) ?_
        · go_simp
          refine (slideBy_nat x (mgF r) HX.out f c _ HV.out hc).mono ?_
          rintro e x1 ⟨rfl, hb⟩
          have K1 := K1.below hb K1.lt
          have BX : Hid (Below wg2.heap.size wg2 x1) := BX.out.trans (hb.mono BX.out.size)
          clear hb
          go_wp2_with fail
          clear hHeld
          refine hK.out _ _ K1 (fun hHeld => ?_)
          clear hK K
          try simp only [Act.put, List.setIfInBounds_toArray, List.set_cons_zero, List.set_cons_succ]
          refine wpAnyH_take (i := 6) (oi := { dst := some 32, op := _, type := _, pos := _, after := _, guard := _ }) (v := .tuple #[.agg (mk 16 (rB (mgF r) f c)), .int .i64 (rM (mgF r) f c 4)]) rfl (by kernel_rfl) (by kernel_rfl) (by kernel_rfl) (fun _ _ _ h => h) (Or.inl ⟨by rfl, by intro w hSw; clear hSw; go_simp; (try with_reducible rfl)⟩) (by assumption) ?_
          try simp only [Act.put, List.setIfInBounds_toArray, List.set_cons_zero, List.set_cons_succ]
          refine wpAnyH_take (i := 7) (oi := { dst := some 39, op := _, type := _, pos := _, after := _, guard := _ }) (v := .agg (mk 16 (rB (mgF r) f c))) rfl (by kernel_rfl) (by kernel_rfl) (by kernel_rfl) (fun _ _ _ h => h) (Or.inl ⟨by rfl, by intro w hSw; clear hSw; go_simp; (try with_reducible rfl)⟩) (by assumption) ?_
          try simp only [Act.put, List.setIfInBounds_toArray, List.set_cons_zero, List.set_cons_succ]
          refine wpAnyH_take (i := 8) (oi := { dst := some 40, op := _, type := _, pos := _, after := _, guard := _ }) (v := .int .i64 (rM (mgF r) f c 4)) rfl (by kernel_rfl) (by kernel_rfl) (by kernel_rfl) (fun _ _ _ h => h) (Or.inl ⟨by rfl, by intro w hSw; clear hSw; go_simp; (try with_reducible rfl)⟩) (by assumption) ?_
          try simp only [Act.put, List.setIfInBounds_toArray, List.set_cons_zero, List.set_cons_succ]
          refine wpAnyH_ready (rs := [9]) (by kernel_rfl) (by simp) ?_
          refine AllReadyH.cons rfl (fun K hK => ?_) AllReadyH.nil
          rw [if_pos (by rfl)]
          refine wp_allocXB rfl ?_
          have K8 := Blk.new x1 16 (fun _ => 0) 37
          have HB8 : Hid (wg2.heap.size ≤ x1.heap.size) := BX.out.size
          have K1 := K1.alloc (.cells (mk 16 fun _ => 0) 37)
          have BX : Hid (Below wg2.heap.size wg2 (x1.alloc (.cells (mk 16 fun _ => 0) 37))) := BX.out.alloc BX.out.size _
          generalize x1.alloc (.cells (mk 16 fun _ => 0) 37) = x2 at *
          generalize x1.heap.size = b8 at *
          clear hHeld
          refine hK.out _ _ K1 (fun hHeld => ?_)
          clear hK K
          try simp only [Act.put, List.setIfInBounds_toArray, List.set_cons_zero, List.set_cons_succ]
          refine wpAnyH_ready (rs := [10]) (by kernel_rfl) (by simp) ?_
          refine AllReadyH.cons rfl (fun K hK => ?_) AllReadyH.nil
          have st1 := run_store_blk (P := Try.prog) (rB (mgF r) f c) K8
          have ms1 : (mk 16 (rB (mgF r) f c)).size = 16 := mk_size 16 _
          go_simp
          clear st1 ms1
          have K1 := K1.rowOther b8 (mk 16 (rB (mgF r) f c)) (by have := HB8.out; have := LK.out; omega)
          have BX : Hid (Below wg2.heap.size wg2 (x2.setRow b8 (mk 16 (rB (mgF r) f c)))) := below_setRow BX.out HB8.out _
          have K8 := K8.row 16 (rB (mgF r) f c)
          generalize x2.setRow b8 (mk 16 (rB (mgF r) f c)) = x3 at *
          clear hHeld
          refine hK.out _ _ K1 (fun hHeld => ?_)
          clear hK K
          try simp only [Act.put, List.setIfInBounds_toArray, List.set_cons_zero, List.set_cons_succ]
          refine wpAnyH_take (i := 11) (oi := { dst := some 13, op := _, type := _, pos := _, after := _, guard := _ }) (v := .int .i64 (rM (mgF r) f c 4)) rfl (by kernel_rfl) (by kernel_rfl) (by kernel_rfl) (fun _ _ _ h => h) (Or.inl ⟨by rfl, by intro w hSw; clear hSw; go_simp; (try with_reducible rfl)⟩) (by assumption) ?_
          try simp only [Act.put, List.setIfInBounds_toArray, List.set_cons_zero, List.set_cons_succ]
          refine wpAnyH_done (by kernel_rfl) ?_ _
          clear hHeld
          have K2 := K2.below BX.out K2.lt
          have HB : Hid (Below w.heap.size w x3) := HB.out.trans (BX.out.mono HB.out.size)
          have LK2 : Hid (w.heap.size + 1 < b8) := by have := HB8.out; have := KL.out; show _ < _; omega
          clear BX HB8 LK KL
          have HF0 : Hid (farB (rIt (mgF r) f c 0) c < ((65 : Nat) : Int)) := by have := farB_bd (rIt (mgF r) f c 0) c; show _ < _; omega
          go_wp2_with fail
          go_loopg [11] 65 (fun g s11 wr => ∃ k : Nat, s11 = .int .i64 (k : Int) ∧ Hid (farB (rIt (mgF r) f c k) c < (g : Int)) ∧ Hid (rLs (mgF r) f c g k = rSt (mgF r) f c) ∧ Blk wr w.heap.size 16 (rIt (mgF r) f c k) 37 ∧ Blk wr (w.heap.size + 1) 16 (fun _ => 0) 37 ∧ Blk wr b8 16 (rB (mgF r) (rIt (mgF r) f c k) c) 37 ∧ Hid (Below w.heap.size w wr))
          case atStart => exact ⟨0, rfl, HF0, rfl, K1, K2, K8, HB⟩
          case round =>
            clear HF0 K1 K2 K8 HB
            obtain ⟨k, rfl, HF, HLs, K1, K2, K8, HB⟩ := hrel
            have HVk := Lib.hid (rIt_vd HMg.out HV.out c k)
            have HVk2 := Lib.hid (rIt_vd HMg.out HV.out c (k + 1))
            have hk65 : k ≤ 65 := by
              have h1 := (rLs_le (mgF r) f c gk k).1
              have h2 := (rLs_le (mgF r) f c 65 0).2
              have h3 : rLs (mgF r) f c gk k = rLs (mgF r) f c 65 0 := HLs.out
              omega
            cases gk with
            | zero => have h1 := HF.out; have h2 := farB_bd (rIt (mgF r) f c k) c; exact absurd h1 (by simp; omega)
            | succ g =>
              have HFr := Lib.hid (rB_far HMg.out HVk.out c)
              have HYes := Lib.hid (rLs_yes (m := mgF r) (f := f) (d := c) (g := g) (k := k))
              have HNo := Lib.hid (rLs_no (m := mgF r) (f := f) (d := c) (g := g) (k := k))
              have HIt : Hid (rIt (mgF r) f c (k + 1) = rB (mgF r) (rIt (mgF r) f c k) c) := rfl
              have HV9 : Hid (Vd (rB (mgF r) (rIt (mgF r) f c k) c)) := HVk2.out
              generalize hcur : rIt (mgF r) f c k = u at *
              cases hs : sameB (rB (mgF r) u c) u with
              | true =>
                have HEnd : Hid (k = rSt (mgF r) f c) := by rw [← HLs.out]; exact (HYes.out hs).symm
                go_wp2_with (first | ((with_reducible show wpList _ _ _ (Oper.mk _ (Op.load 37 _) _ _ _ _ :: _) _ _); refine loadB (K8) rfl rfl rfl ?_) | ((with_reducible show wpList _ _ _ (Oper.mk _ (Op.load 37 _) _ _ _ _ :: _) _ _); refine loadB (K1) rfl rfl rfl ?_) | ((with_reducible show wpList _ _ _ (Oper.mk _ (Op.store 37 _ _) _ _ _ _ :: _) _ _); refine storeB (K2) rfl rfl rfl rfl ?_))
                try simp only [Exit.inBlock, Exit.then]
                refine retcttB (K2.row 16 _) rfl rfl rfl ⟨?_, below_setRow HB.out (by omega) _⟩
                rw [← HEnd.out, hcur]
                rfl
              | false =>
                have HLs2 : Hid (rLs (mgF r) f c g (k + 1) = rSt (mgF r) f c) := by rw [← HLs.out]; exact (HNo.out hs).symm
                have HF2 : Hid (farB (rIt (mgF r) f c (k + 1)) c < (g : Int)) := by have h1 := HFr.out hs; have h2 := HF.out; rw [HIt.out]; show _ < _; push_cast at h2; omega
                go_wp2_with (first | ((with_reducible show wpList _ _ _ (Oper.mk _ (Op.load 37 _) _ _ _ _ :: _) _ _); refine loadB (K8) rfl rfl rfl ?_) | ((with_reducible show wpList _ _ _ (Oper.mk _ (Op.load 37 _) _ _ _ _ :: _) _ _); refine loadB (K1) rfl rfl rfl ?_) | ((with_reducible show wpList _ _ _ (Oper.mk _ (Op.store 37 _ _) _ _ _ _ :: _) _ _); refine storeB (K1) rfl rfl rfl rfl ?_))
                have K2 := K2.rowOther w.heap.size (mk 16 (rB (mgF r) u c)) (by omega)
                have K8 := K8.rowOther w.heap.size (mk 16 (rB (mgF r) u c)) (by have := LK2.out; omega)
                have HB : Hid (Below w.heap.size w (wr.setRow w.heap.size (mk 16 (rB (mgF r) u c)))) := below_setRow HB.out (Nat.le_refl _) _
                have K1 := K1.row 16 (rB (mgF r) u c)
                generalize wr.setRow w.heap.size (mk 16 (rB (mgF r) u c)) = wz at *
                have LK : Hid (w.heap.size + 1 < b8) := LK2
                generalize hv : rB (mgF r) u c = v at *
                refine wp_region_held_drew (S := fun W => Blk W w.heap.size 16 v 37) (by kernel_rfl) (K1.drew) (fun hHeld => ?_)
                have K1 : Blk wz.drew w.heap.size 16 v 37 := K1.drew
                have K2 := K2.drew
                have K8 := K8.drew
                have BX : Hid (Below w.heap.size w wz.drew) := HB.out.drew
                generalize wz.drew = x0 at *
                refine wpAnyH_take (i := 0) (oi := { dst := some 48, op := _, type := _, pos := _, after := _, guard := _ }) (v := .agg (mk 16 v)) rfl (by kernel_rfl) (by kernel_rfl) (by kernel_rfl) (fun _ _ _ h => h) (Or.inl ⟨by rfl, fun _ q => execB q rfl rfl⟩) (by assumption) ?_
                try simp only [Act.put, List.setIfInBounds_toArray, List.set_cons_zero, List.set_cons_succ]
                refine wpAnyH_take (i := 1) (oi := { dst := some 49, op := _, type := _, pos := _, after := _, guard := _ }) (v := .int .i64 (c : Int)) rfl (by kernel_rfl) (by kernel_rfl) (by kernel_rfl) (fun _ _ _ h => h) (Or.inl ⟨by rfl, by intro w hSw; clear hSw; go_simp; (try with_reducible rfl)⟩) (by assumption) ?_
                try simp only [Act.put, List.setIfInBounds_toArray, List.set_cons_zero, List.set_cons_succ]
                refine wpAnyH_take (i := 2) (oi := { dst := some 50, op := _, type := _, pos := _, after := _, guard := _ }) (v := .iface 112 (.agg #[x])) rfl (by kernel_rfl) (by kernel_rfl) (by kernel_rfl) (fun _ _ _ h => h) (Or.inl ⟨by rfl, by intro w hSw; clear hSw; go_simp; (try with_reducible rfl)⟩) (by assumption) ?_
                try simp only [Act.put, List.setIfInBounds_toArray, List.set_cons_zero, List.set_cons_succ]
                refine wpAnyH_take (i := 3) (oi := { dst := some 51, op := _, type := _, pos := _, after := _, guard := _ }) (v := .iface 112 (.agg #[x])) rfl (by kernel_rfl) (by kernel_rfl) (by kernel_rfl) (fun _ _ _ h => h) (Or.inl ⟨by rfl, by intro w hSw; clear hSw; go_simp; (try with_reducible rfl)⟩) (by assumption) ?_
                try simp only [Act.put, List.setIfInBounds_toArray, List.set_cons_zero, List.set_cons_succ]
                refine wpAnyH_take (i := 4) (oi := { dst := some 52, op := _, type := _, pos := _, after := _, guard := _ }) (v := .func (.method "loop.example/g01194/impl.merge") #[.iface 112 (.agg #[x])] #[]) rfl (by kernel_rfl) (by kernel_rfl) (by kernel_rfl) (fun _ _ _ h => h) (Or.inl ⟨by rfl, by intro w hSw; clear hSw; go_simp; (try with_reducible rfl)⟩) (by assumption) ?_
                try simp only [Act.put, List.setIfInBounds_toArray, List.set_cons_zero, List.set_cons_succ]
                refine wpAnyH_ready (rs := [5]) (by kernel_rfl) (by simp) ?_
                refine AllReadyH.cons rfl (fun K hK => ?_) AllReadyH.nil
                go_simp
                refine (slideBy_nat x (mgF r) HX.out v c _ HV9.out hc).mono ?_
                rintro e x1 ⟨rfl, hb⟩
                have K1 := K1.below hb K1.lt
                have K2 := K2.below hb K2.lt
                have K8 := K8.below hb K8.lt
                have BX : Hid (Below w.heap.size w x1) := BX.out.trans (hb.mono BX.out.size)
                clear hb
                go_wp2_with fail
                clear hHeld
                refine hK.out _ _ K1 (fun hHeld => ?_)
                clear hK K
                try simp only [Act.put, List.setIfInBounds_toArray, List.set_cons_zero, List.set_cons_succ]
                refine wpAnyH_take (i := 6) (oi := { dst := some 47, op := _, type := _, pos := _, after := _, guard := _ }) (v := .tuple #[.agg (mk 16 (rB (mgF r) v c)), .int .i64 (rM (mgF r) v c 4)]) rfl (by kernel_rfl) (by kernel_rfl) (by kernel_rfl) (fun _ _ _ h => h) (Or.inl ⟨by rfl, by intro w hSw; clear hSw; go_simp; (try with_reducible rfl)⟩) (by assumption) ?_
                try simp only [Act.put, List.setIfInBounds_toArray, List.set_cons_zero, List.set_cons_succ]
                refine wpAnyH_take (i := 7) (oi := { dst := some 54, op := _, type := _, pos := _, after := _, guard := _ }) (v := .agg (mk 16 (rB (mgF r) v c))) rfl (by kernel_rfl) (by kernel_rfl) (by kernel_rfl) (fun _ _ _ h => h) (Or.inl ⟨by rfl, by intro w hSw; clear hSw; go_simp; (try with_reducible rfl)⟩) (by assumption) ?_
                try simp only [Act.put, List.setIfInBounds_toArray, List.set_cons_zero, List.set_cons_succ]
                refine wpAnyH_take (i := 8) (oi := { dst := some 55, op := _, type := _, pos := _, after := _, guard := _ }) (v := .int .i64 (rM (mgF r) v c 4)) rfl (by kernel_rfl) (by kernel_rfl) (by kernel_rfl) (fun _ _ _ h => h) (Or.inl ⟨by rfl, by intro w hSw; clear hSw; go_simp; (try with_reducible rfl)⟩) (by assumption) ?_
                try simp only [Act.put, List.setIfInBounds_toArray, List.set_cons_zero, List.set_cons_succ]
                refine wpAnyH_ready (rs := [9]) (by kernel_rfl) (by simp) ?_
                refine AllReadyH.cons rfl (fun K hK => ?_) AllReadyH.nil
                have st1 := run_store_blk (P := Try.prog) (rB (mgF r) v c) K8
                have ms1 : (mk 16 (rB (mgF r) v c)).size = 16 := mk_size 16 _
                go_simp
                clear st1 ms1
                have K1 := K1.rowOther b8 (mk 16 (rB (mgF r) v c)) (by have := LK.out; omega)
                have K2 := K2.rowOther b8 (mk 16 (rB (mgF r) v c)) (by have := LK.out; omega)
                have BX : Hid (Below w.heap.size w (x1.setRow b8 (mk 16 (rB (mgF r) v c)))) := below_setRow BX.out (by have := LK.out; omega) _
                have K8 := K8.row 16 (rB (mgF r) v c)
                generalize x1.setRow b8 (mk 16 (rB (mgF r) v c)) = x2 at *
                clear hHeld
                refine hK.out _ _ K1 (fun hHeld => ?_)
                clear hK K
                try simp only [Act.put, List.setIfInBounds_toArray, List.set_cons_zero, List.set_cons_succ]
                refine wpAnyH_done (by kernel_rfl) ?_ _
                clear hHeld
                go_wp2_with fail
                go_roundg g
                case rel =>
                  refine ⟨k + 1, by go_num, HF2, HLs2, ?_, K2, ?_, BX⟩
                  · rw [HIt.out]; exact K1
                  · rw [HIt.out]; exact K8
                case measure => omega
        refine AllReadyH.cons rfl (fun K hK => ?_) AllReadyH.nil
        rw [if_pos (by rfl)]
        refine wp_allocXB rfl ?_
        have K8 := Blk.new x0 16 (fun _ => 0) 37
        have HB8 : Hid (wg2.heap.size ≤ x0.heap.size) := BX.out.size
        have K1 := K1.alloc (.cells (mk 16 fun _ => 0) 37)
        have BX : Hid (Below wg2.heap.size wg2 (x0.alloc (.cells (mk 16 fun _ => 0) 37))) := BX.out.alloc BX.out.size _
        generalize x0.alloc (.cells (mk 16 fun _ => 0) 37) = x1 at *
        generalize x0.heap.size = b8 at *
        clear hHeld
        refine hK.out _ _ K1 (fun hHeld => ?_)
        clear hK K
        try simp only [Act.put, List.setIfInBounds_toArray, List.set_cons_zero, List.set_cons_succ]
        refine wpAnyH_ready (rs := [5]) (by kernel_rfl) (by simp) ?_
        refine AllReadyH.cons rfl (fun K hK => ?_) AllReadyH.nil
        go_simp
        refine (slideBy_nat x (mgF r) HX.out f c _ HV.out hc).mono ?_
        rintro e x2 ⟨rfl, hb⟩
        have K1 := K1.below hb K1.lt
        have BX : Hid (Below wg2.heap.size wg2 x2) := BX.out.trans (hb.mono BX.out.size)
        have K8 := K8.below hb K8.lt
        clear hb
        go_wp2_with fail
        clear hHeld
        refine hK.out _ _ K1 (fun hHeld => ?_)
        clear hK K
        try simp only [Act.put, List.setIfInBounds_toArray, List.set_cons_zero, List.set_cons_succ]
        refine wpAnyH_take (i := 6) (oi := { dst := some 32, op := _, type := _, pos := _, after := _, guard := _ }) (v := .tuple #[.agg (mk 16 (rB (mgF r) f c)), .int .i64 (rM (mgF r) f c 4)]) rfl (by kernel_rfl) (by kernel_rfl) (by kernel_rfl) (fun _ _ _ h => h) (Or.inl ⟨by rfl, by intro w hSw; clear hSw; go_simp; (try with_reducible rfl)⟩) (by assumption) ?_
        try simp only [Act.put, List.setIfInBounds_toArray, List.set_cons_zero, List.set_cons_succ]
        refine wpAnyH_take (i := 7) (oi := { dst := some 39, op := _, type := _, pos := _, after := _, guard := _ }) (v := .agg (mk 16 (rB (mgF r) f c))) rfl (by kernel_rfl) (by kernel_rfl) (by kernel_rfl) (fun _ _ _ h => h) (Or.inl ⟨by rfl, by intro w hSw; clear hSw; go_simp; (try with_reducible rfl)⟩) (by assumption) ?_
        try simp only [Act.put, List.setIfInBounds_toArray, List.set_cons_zero, List.set_cons_succ]
        refine wpAnyH_take (i := 8) (oi := { dst := some 40, op := _, type := _, pos := _, after := _, guard := _ }) (v := .int .i64 (rM (mgF r) f c 4)) rfl (by kernel_rfl) (by kernel_rfl) (by kernel_rfl) (fun _ _ _ h => h) (Or.inl ⟨by rfl, by intro w hSw; clear hSw; go_simp; (try with_reducible rfl)⟩) (by assumption) ?_
        try simp only [Act.put, List.setIfInBounds_toArray, List.set_cons_zero, List.set_cons_succ]
        refine wpAnyH_ready (rs := [10]) (by kernel_rfl) (by simp) ?_
        refine AllReadyH.cons rfl (fun K hK => ?_) AllReadyH.nil
        have st1 := run_store_blk (P := Try.prog) (rB (mgF r) f c) K8
        have ms1 : (mk 16 (rB (mgF r) f c)).size = 16 := mk_size 16 _
        go_simp
        clear st1 ms1
        have K1 := K1.rowOther b8 (mk 16 (rB (mgF r) f c)) (by have := HB8.out; have := LK.out; omega)
        have BX : Hid (Below wg2.heap.size wg2 (x2.setRow b8 (mk 16 (rB (mgF r) f c)))) := below_setRow BX.out HB8.out _
        have K8 := K8.row 16 (rB (mgF r) f c)
        generalize x2.setRow b8 (mk 16 (rB (mgF r) f c)) = x3 at *
        clear hHeld
        refine hK.out _ _ K1 (fun hHeld => ?_)
        clear hK K
        try simp only [Act.put, List.setIfInBounds_toArray, List.set_cons_zero, List.set_cons_succ]
        refine wpAnyH_take (i := 11) (oi := { dst := some 13, op := _, type := _, pos := _, after := _, guard := _ }) (v := .int .i64 (rM (mgF r) f c 4)) rfl (by kernel_rfl) (by kernel_rfl) (by kernel_rfl) (fun _ _ _ h => h) (Or.inl ⟨by rfl, by intro w hSw; clear hSw; go_simp; (try with_reducible rfl)⟩) (by assumption) ?_
        try simp only [Act.put, List.setIfInBounds_toArray, List.set_cons_zero, List.set_cons_succ]
        refine wpAnyH_done (by kernel_rfl) ?_ _
        clear hHeld
        have K2 := K2.below BX.out K2.lt
        have HB : Hid (Below w.heap.size w x3) := HB.out.trans (BX.out.mono HB.out.size)
        have LK2 : Hid (w.heap.size + 1 < b8) := by have := HB8.out; have := KL.out; show _ < _; omega
        clear BX HB8 LK KL
        have HF0 : Hid (farB (rIt (mgF r) f c 0) c < ((65 : Nat) : Int)) := by have := farB_bd (rIt (mgF r) f c 0) c; show _ < _; omega
        go_wp2_with fail
        go_loopg [11] 65 (fun g s11 wr => ∃ k : Nat, s11 = .int .i64 (k : Int) ∧ Hid (farB (rIt (mgF r) f c k) c < (g : Int)) ∧ Hid (rLs (mgF r) f c g k = rSt (mgF r) f c) ∧ Blk wr w.heap.size 16 (rIt (mgF r) f c k) 37 ∧ Blk wr (w.heap.size + 1) 16 (fun _ => 0) 37 ∧ Blk wr b8 16 (rB (mgF r) (rIt (mgF r) f c k) c) 37 ∧ Hid (Below w.heap.size w wr))
        case atStart => exact ⟨0, rfl, HF0, rfl, K1, K2, K8, HB⟩
        case round =>
          clear HF0 K1 K2 K8 HB
          obtain ⟨k, rfl, HF, HLs, K1, K2, K8, HB⟩ := hrel
          have HVk := Lib.hid (rIt_vd HMg.out HV.out c k)
          have HVk2 := Lib.hid (rIt_vd HMg.out HV.out c (k + 1))
          have hk65 : k ≤ 65 := by
            have h1 := (rLs_le (mgF r) f c gk k).1
            have h2 := (rLs_le (mgF r) f c 65 0).2
            have h3 : rLs (mgF r) f c gk k = rLs (mgF r) f c 65 0 := HLs.out
            omega
          cases gk with
          | zero => have h1 := HF.out; have h2 := farB_bd (rIt (mgF r) f c k) c; exact absurd h1 (by simp; omega)
          | succ g =>
            have HFr := Lib.hid (rB_far HMg.out HVk.out c)
            have HYes := Lib.hid (rLs_yes (m := mgF r) (f := f) (d := c) (g := g) (k := k))
            have HNo := Lib.hid (rLs_no (m := mgF r) (f := f) (d := c) (g := g) (k := k))
            have HIt : Hid (rIt (mgF r) f c (k + 1) = rB (mgF r) (rIt (mgF r) f c k) c) := rfl
            have HV9 : Hid (Vd (rB (mgF r) (rIt (mgF r) f c k) c)) := HVk2.out
            generalize hcur : rIt (mgF r) f c k = u at *
            cases hs : sameB (rB (mgF r) u c) u with
            | true =>
              have HEnd : Hid (k = rSt (mgF r) f c) := by rw [← HLs.out]; exact (HYes.out hs).symm
              go_wp2_with (first | ((with_reducible show wpList _ _ _ (Oper.mk _ (Op.load 37 _) _ _ _ _ :: _) _ _); refine loadB (K8) rfl rfl rfl ?_) | ((with_reducible show wpList _ _ _ (Oper.mk _ (Op.load 37 _) _ _ _ _ :: _) _ _); refine loadB (K1) rfl rfl rfl ?_) | ((with_reducible show wpList _ _ _ (Oper.mk _ (Op.store 37 _ _) _ _ _ _ :: _) _ _); refine storeB (K2) rfl rfl rfl rfl ?_))
              try simp only [Exit.inBlock, Exit.then]
              refine retcttB (K2.row 16 _) rfl rfl rfl ⟨?_, below_setRow HB.out (by omega) _⟩
              rw [← HEnd.out, hcur]
              rfl
            | false =>
              have HLs2 : Hid (rLs (mgF r) f c g (k + 1) = rSt (mgF r) f c) := by rw [← HLs.out]; exact (HNo.out hs).symm
              have HF2 : Hid (farB (rIt (mgF r) f c (k + 1)) c < (g : Int)) := by have h1 := HFr.out hs; have h2 := HF.out; rw [HIt.out]; show _ < _; push_cast at h2; omega
              go_wp2_with (first | ((with_reducible show wpList _ _ _ (Oper.mk _ (Op.load 37 _) _ _ _ _ :: _) _ _); refine loadB (K8) rfl rfl rfl ?_) | ((with_reducible show wpList _ _ _ (Oper.mk _ (Op.load 37 _) _ _ _ _ :: _) _ _); refine loadB (K1) rfl rfl rfl ?_) | ((with_reducible show wpList _ _ _ (Oper.mk _ (Op.store 37 _ _) _ _ _ _ :: _) _ _); refine storeB (K1) rfl rfl rfl rfl ?_))
              have K2 := K2.rowOther w.heap.size (mk 16 (rB (mgF r) u c)) (by omega)
              have K8 := K8.rowOther w.heap.size (mk 16 (rB (mgF r) u c)) (by have := LK2.out; omega)
              have HB : Hid (Below w.heap.size w (wr.setRow w.heap.size (mk 16 (rB (mgF r) u c)))) := below_setRow HB.out (Nat.le_refl _) _
              have K1 := K1.row 16 (rB (mgF r) u c)
              generalize wr.setRow w.heap.size (mk 16 (rB (mgF r) u c)) = wz at *
              have LK : Hid (w.heap.size + 1 < b8) := LK2
              generalize hv : rB (mgF r) u c = v at *
              refine wp_region_held_drew (S := fun W => Blk W w.heap.size 16 v 37) (by kernel_rfl) (K1.drew) (fun hHeld => ?_)
              have K1 : Blk wz.drew w.heap.size 16 v 37 := K1.drew
              have K2 := K2.drew
              have K8 := K8.drew
              have BX : Hid (Below w.heap.size w wz.drew) := HB.out.drew
              generalize wz.drew = x0 at *
              refine wpAnyH_take (i := 0) (oi := { dst := some 48, op := _, type := _, pos := _, after := _, guard := _ }) (v := .agg (mk 16 v)) rfl (by kernel_rfl) (by kernel_rfl) (by kernel_rfl) (fun _ _ _ h => h) (Or.inl ⟨by rfl, fun _ q => execB q rfl rfl⟩) (by assumption) ?_
              try simp only [Act.put, List.setIfInBounds_toArray, List.set_cons_zero, List.set_cons_succ]
              refine wpAnyH_take (i := 1) (oi := { dst := some 49, op := _, type := _, pos := _, after := _, guard := _ }) (v := .int .i64 (c : Int)) rfl (by kernel_rfl) (by kernel_rfl) (by kernel_rfl) (fun _ _ _ h => h) (Or.inl ⟨by rfl, by intro w hSw; clear hSw; go_simp; (try with_reducible rfl)⟩) (by assumption) ?_
              try simp only [Act.put, List.setIfInBounds_toArray, List.set_cons_zero, List.set_cons_succ]
              refine wpAnyH_take (i := 2) (oi := { dst := some 50, op := _, type := _, pos := _, after := _, guard := _ }) (v := .iface 112 (.agg #[x])) rfl (by kernel_rfl) (by kernel_rfl) (by kernel_rfl) (fun _ _ _ h => h) (Or.inl ⟨by rfl, by intro w hSw; clear hSw; go_simp; (try with_reducible rfl)⟩) (by assumption) ?_
              try simp only [Act.put, List.setIfInBounds_toArray, List.set_cons_zero, List.set_cons_succ]
              refine wpAnyH_take (i := 3) (oi := { dst := some 51, op := _, type := _, pos := _, after := _, guard := _ }) (v := .iface 112 (.agg #[x])) rfl (by kernel_rfl) (by kernel_rfl) (by kernel_rfl) (fun _ _ _ h => h) (Or.inl ⟨by rfl, by intro w hSw; clear hSw; go_simp; (try with_reducible rfl)⟩) (by assumption) ?_
              try simp only [Act.put, List.setIfInBounds_toArray, List.set_cons_zero, List.set_cons_succ]
              refine wpAnyH_take (i := 4) (oi := { dst := some 52, op := _, type := _, pos := _, after := _, guard := _ }) (v := .func (.method "loop.example/g01194/impl.merge") #[.iface 112 (.agg #[x])] #[]) rfl (by kernel_rfl) (by kernel_rfl) (by kernel_rfl) (fun _ _ _ h => h) (Or.inl ⟨by rfl, by intro w hSw; clear hSw; go_simp; (try with_reducible rfl)⟩) (by assumption) ?_
              try simp only [Act.put, List.setIfInBounds_toArray, List.set_cons_zero, List.set_cons_succ]
              refine wpAnyH_ready (rs := [5]) (by kernel_rfl) (by simp) ?_
              refine AllReadyH.cons rfl (fun K hK => ?_) AllReadyH.nil
              go_simp
              refine (slideBy_nat x (mgF r) HX.out v c _ HV9.out hc).mono ?_
              rintro e x1 ⟨rfl, hb⟩
              have K1 := K1.below hb K1.lt
              have K2 := K2.below hb K2.lt
              have K8 := K8.below hb K8.lt
              have BX : Hid (Below w.heap.size w x1) := BX.out.trans (hb.mono BX.out.size)
              clear hb
              go_wp2_with fail
              clear hHeld
              refine hK.out _ _ K1 (fun hHeld => ?_)
              clear hK K
              try simp only [Act.put, List.setIfInBounds_toArray, List.set_cons_zero, List.set_cons_succ]
              refine wpAnyH_take (i := 6) (oi := { dst := some 47, op := _, type := _, pos := _, after := _, guard := _ }) (v := .tuple #[.agg (mk 16 (rB (mgF r) v c)), .int .i64 (rM (mgF r) v c 4)]) rfl (by kernel_rfl) (by kernel_rfl) (by kernel_rfl) (fun _ _ _ h => h) (Or.inl ⟨by rfl, by intro w hSw; clear hSw; go_simp; (try with_reducible rfl)⟩) (by assumption) ?_
              try simp only [Act.put, List.setIfInBounds_toArray, List.set_cons_zero, List.set_cons_succ]
              refine wpAnyH_take (i := 7) (oi := { dst := some 54, op := _, type := _, pos := _, after := _, guard := _ }) (v := .agg (mk 16 (rB (mgF r) v c))) rfl (by kernel_rfl) (by kernel_rfl) (by kernel_rfl) (fun _ _ _ h => h) (Or.inl ⟨by rfl, by intro w hSw; clear hSw; go_simp; (try with_reducible rfl)⟩) (by assumption) ?_
              try simp only [Act.put, List.setIfInBounds_toArray, List.set_cons_zero, List.set_cons_succ]
              refine wpAnyH_take (i := 8) (oi := { dst := some 55, op := _, type := _, pos := _, after := _, guard := _ }) (v := .int .i64 (rM (mgF r) v c 4)) rfl (by kernel_rfl) (by kernel_rfl) (by kernel_rfl) (fun _ _ _ h => h) (Or.inl ⟨by rfl, by intro w hSw; clear hSw; go_simp; (try with_reducible rfl)⟩) (by assumption) ?_
              try simp only [Act.put, List.setIfInBounds_toArray, List.set_cons_zero, List.set_cons_succ]
              refine wpAnyH_ready (rs := [9]) (by kernel_rfl) (by simp) ?_
              refine AllReadyH.cons rfl (fun K hK => ?_) AllReadyH.nil
              have st1 := run_store_blk (P := Try.prog) (rB (mgF r) v c) K8
              have ms1 : (mk 16 (rB (mgF r) v c)).size = 16 := mk_size 16 _
              go_simp
              clear st1 ms1
              have K1 := K1.rowOther b8 (mk 16 (rB (mgF r) v c)) (by have := LK.out; omega)
              have K2 := K2.rowOther b8 (mk 16 (rB (mgF r) v c)) (by have := LK.out; omega)
              have BX : Hid (Below w.heap.size w (x1.setRow b8 (mk 16 (rB (mgF r) v c)))) := below_setRow BX.out (by have := LK.out; omega) _
              have K8 := K8.row 16 (rB (mgF r) v c)
              generalize x1.setRow b8 (mk 16 (rB (mgF r) v c)) = x2 at *
              clear hHeld
              refine hK.out _ _ K1 (fun hHeld => ?_)
              clear hK K
              try simp only [Act.put, List.setIfInBounds_toArray, List.set_cons_zero, List.set_cons_succ]
              refine wpAnyH_done (by kernel_rfl) ?_ _
              clear hHeld
              go_wp2_with fail
              go_roundg g
              case rel =>
                refine ⟨k + 1, by go_num, HF2, HLs2, ?_, K2, ?_, BX⟩
                · rw [HIt.out]; exact K1
                · rw [HIt.out]; exact K8
              case measure => omega
      · rw [(r10_no (f := f) (d := d) (r := r) fun h => hD h.2.1).1, (rt_no (f := f) (d := d) (r := r) fun h => hD h.2.1).1, (rt_no (f := f) (d := d) (r := r) fun h => hD h.2.1).2]
        have HD := Lib.hid (show d < 0 ∨ 3 < d by omega)
        clear hR hV hD
        go_enter Try.func42, Try.ntmps42
        go_wp2_with (first | ((with_reducible show wpList _ _ _ (Oper.mk _ (Op.load 37 _) _ _ _ _ :: _) _ _); refine loadB (K1) rfl rfl rfl ?_) | ((with_reducible show wpList _ _ _ (Oper.mk _ (Op.load 37 _) _ _ _ (some _) :: _) _ _); refine loadgB (K1) rfl rfl rfl ?_))
        refine (CL.out _).mono ?_
        rintro e wg1 ⟨rfl, hb⟩
        have K1 := K1.below hb K1.lt
        have K2 := K2.below hb K2.lt
        have HB : Hid (Below w.heap.size w wg1) := HB.out.trans (hb.mono HB.out.size)
        clear hb
        go_wp2_with (first | ((with_reducible show wpList _ _ _ (Oper.mk _ (Op.load 37 _) _ _ _ _ :: _) _ _); refine loadB (K1) rfl rfl rfl ?_) | ((with_reducible show wpList _ _ _ (Oper.mk _ (Op.load 37 _) _ _ _ (some _) :: _) _ _); refine loadgB (K1) rfl rfl rfl ?_))
        refine (implBoard_yes _ _ HV.out).mono ?_
        rintro e wg2 ⟨rfl, hb⟩
        have K1 := K1.below hb K1.lt
        have K2 := K2.below hb K2.lt
        have HB : Hid (Below w.heap.size w wg2) := HB.out.trans (hb.mono HB.out.size)
        clear hb
        go_wp2_with (first | ((with_reducible show wpList _ _ _ (Oper.mk _ (Op.load 37 _) _ _ _ _ :: _) _ _); refine loadB (K1) rfl rfl rfl ?_) | ((with_reducible show wpList _ _ _ (Oper.mk _ (Op.load 37 _) _ _ _ (some _) :: _) _ _); refine loadgB (K1) rfl rfl rfl ?_))
        refine (isDirection_no _ _ HD.out).mono ?_
        rintro e wg3 ⟨rfl, rfl⟩
        go_wp2_with ((with_reducible show wpList _ _ _ (Oper.mk _ (Op.store 37 _ _) _ _ _ _ :: _) _ _); refine storeB (K2) rfl rfl rfl rfl ?_)
        try simp only [Exit.inBlock, Exit.then]
        exact retcttB (K2.row 16 _) rfl rfl rfl ⟨rfl, below_setRow HB.out (by omega) _⟩
    · rw [(r10_no (f := f) (d := d) (r := r) fun h => hV h.1).1, (rt_no (f := f) (d := d) (r := r) fun h => hV h.1).1, (rt_no (f := f) (d := d) (r := r) fun h => hV h.1).2]
      have HV := Lib.hid hV
      clear hR hV
      go_enter Try.func42, Try.ntmps42
      go_wp2_with (first | ((with_reducible show wpList _ _ _ (Oper.mk _ (Op.load 37 _) _ _ _ _ :: _) _ _); refine loadB (K1) rfl rfl rfl ?_) | ((with_reducible show wpList _ _ _ (Oper.mk _ (Op.load 37 _) _ _ _ (some _) :: _) _ _); refine loadgB (K1) rfl rfl rfl ?_))
      refine (CL.out _).mono ?_
      rintro e wg1 ⟨rfl, hb⟩
      have K1 := K1.below hb K1.lt
      have K2 := K2.below hb K2.lt
      have HB : Hid (Below w.heap.size w wg1) := HB.out.trans (hb.mono HB.out.size)
      clear hb
      go_wp2_with (first | ((with_reducible show wpList _ _ _ (Oper.mk _ (Op.load 37 _) _ _ _ _ :: _) _ _); refine loadB (K1) rfl rfl rfl ?_) | ((with_reducible show wpList _ _ _ (Oper.mk _ (Op.load 37 _) _ _ _ (some _) :: _) _ _); refine loadgB (K1) rfl rfl rfl ?_))
      refine (implBoard_no _ _ HV.out).mono ?_
      rintro e wg2 ⟨rfl, hb⟩
      have K1 := K1.below hb K1.lt
      have K2 := K2.below hb K2.lt
      have HB : Hid (Below w.heap.size w wg2) := HB.out.trans (hb.mono HB.out.size)
      clear hb
      go_wp2_with ((with_reducible show wpList _ _ _ (Oper.mk _ (Op.store 37 _ _) _ _ _ _ :: _) _ _); refine storeB (K2) rfl rfl rfl rfl ?_)
      try simp only [Exit.inBlock, Exit.then]
      exact retcttB (K2.row 16 _) rfl rfl rfl ⟨rfl, below_setRow HB.out (by omega) _⟩
  · rw [(r10_no (f := f) (d := d) (r := r) fun h => hR h.2.2).1, (rt_no (f := f) (d := d) (r := r) fun h => hR h.2.2).1, (rt_no (f := f) (d := d) (r := r) fun h => hR h.2.2).2]
    have HR := Lib.hid hR
    clear hR
    go_enter Try.func42, Try.ntmps42
    go_wp2_with (first | ((with_reducible show wpList _ _ _ (Oper.mk _ (Op.load 37 _) _ _ _ _ :: _) _ _); refine loadB (K1) rfl rfl rfl ?_) | ((with_reducible show wpList _ _ _ (Oper.mk _ (Op.load 37 _) _ _ _ (some _) :: _) _ _); refine loadgB (K1) rfl rfl rfl ?_))
    refine (lawOf_no r _ HR.out).mono ?_
    rintro e wg1 ⟨rfl, hb⟩
    have K1 := K1.below hb K1.lt
    have K2 := K2.below hb K2.lt
    have HB : Hid (Below w.heap.size w wg1) := HB.out.trans (hb.mono HB.out.size)
    clear hb
    go_wp2_with ((with_reducible show wpList _ _ _ (Oper.mk _ (Op.store 37 _ _) _ _ _ _ :: _) _ _); refine storeB (K2) rfl rfl rfl rfl ?_)
    try simp only [Exit.inBlock, Exit.then]
    exact retcttB (K2.row 16 _) rfl rfl rfl ⟨rfl, below_setRow HB.out (by omega) _⟩
end Go.Proofs.Ytblcojacmjbjcaa
