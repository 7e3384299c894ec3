/-
  The contracts of SlideBy, in the reference and in the program, for every board and all numbers.
-/
import Derived.Test.YtblcojacmjbjcaaRuleMv
import Derived.Test.YtblcojacmjbjcaaMergers

namespace Go.Proofs.Ytblcojacmjbjcaa
open Go.RowKit Plain
attribute [local go_sem] store_new
set_option linter.unusedVariables false
set_option linter.unusedSimpArgs false
set_option maxHeartbeats 2000000 in
set_option maxRecDepth 20000 in
theorem specSlideBy_any (f : Nat → Int) (d r : Int) (w : World) :
    Calls Try.prog 24 #[.agg (mk 16 f), .int .i64 d, .int .i64 r] w fun e w' => e = .returned (.tuple #[.agg (mk 16 (r10B f d r)), .int .i64 (r10M f d r), .bool (r10O f d r)]) ∧ Below w.heap.size w w' := by
  have z16 := zero16
  have K1 := (Blk.new w 16 f 37).alloc (.cells (mk 16 fun _ => 0) 37)
  have K2 := Blk.new (w.alloc (.cells (mk 16 f) 37)) 16 (fun _ => 0) 37
  have HB := Lib.hid (((Below.refl w.heap.size w).alloc (Nat.le_refl _) (.cells (mk 16 f) 37)).alloc (by simp) (.cells (mk 16 fun _ => 0) 37))
  simp only [World.size_alloc] at K2
  by_cases hV : Vd f
  · have HV := Lib.hid hV
    by_cases hD : 0 ≤ d ∧ d ≤ 3
    · have HD := Lib.hid hD
      by_cases hR : RlOk r
      · have HR := Lib.hid hR
        rw [(r10_yes (f := f) (d := d) (r := r) ⟨hV, hD, hR⟩).1, (r10_yes (f := f) (d := d) (r := r) ⟨hV, hD, hR⟩).2.1, (r10_yes (f := f) (d := d) (r := r) ⟨hV, hD, hR⟩).2.2]
        obtain ⟨k, rfl⟩ := Int.eq_ofNat_of_zero_le hD.1
        have hk : k < 4 := by omega
        rw [Int.toNat_natCast]
        have HM : Hid ((empN (rB (mgF r) f k) 16 : Int) = empN f 16 + rM (mgF r) f k 4) := emp_rB (mgFn r) hV hk
        have hn1 := empN_le f 16
        have hn2 := empN_le (rB (mgF r) f k) 16
        clear hV hD hR
        go_enter Try.func24, Try.ntmps24
        go_wp2_with (first | ((with_reducible show wpList _ _ _ (Oper.mk _ (Op.load 37 _) _ _ _ _ :: _) _ _); refine loadB (K1) rfl rfl rfl ?_) | ((with_reducible show wpList _ _ _ (Oper.mk _ (Op.load 37 _) _ _ _ (some _) :: _) _ _); refine loadgB (K1) rfl rfl rfl ?_))
        refine (l2Board_yes _ _ HV.out).mono ?_
        rintro e wg1 ⟨rfl, hb⟩
        have K1 := K1.below hb K1.lt
        have K2 := K2.below hb K2.lt
        have HB : Hid (Below w.heap.size w wg1) := HB.out.trans (hb.mono HB.out.size)
        clear hb
        go_wp2_with (first | ((with_reducible show wpList _ _ _ (Oper.mk _ (Op.load 37 _) _ _ _ _ :: _) _ _); refine loadB (K1) rfl rfl rfl ?_) | ((with_reducible show wpList _ _ _ (Oper.mk _ (Op.load 37 _) _ _ _ (some _) :: _) _ _); refine loadgB (K1) rfl rfl rfl ?_))
        refine (l2Side_yes _ _ HD.out.1 HD.out.2).mono ?_
        rintro e wg2 ⟨rfl, rfl⟩
        go_wp2_with (first | ((with_reducible show wpList _ _ _ (Oper.mk _ (Op.load 37 _) _ _ _ _ :: _) _ _); refine loadB (K1) rfl rfl rfl ?_) | ((with_reducible show wpList _ _ _ (Oper.mk _ (Op.load 37 _) _ _ _ (some _) :: _) _ _); refine loadgB (K1) rfl rfl rfl ?_))
        refine (l10Rule_yes r _ HR.out).mono ?_
        rintro e wg3 ⟨rfl, rfl⟩
        go_wp2_with (first | ((with_reducible show wpList _ _ _ (Oper.mk _ (Op.load 37 _) _ _ _ _ :: _) _ _); refine loadB (K1) rfl rfl rfl ?_) | ((with_reducible show wpList _ _ _ (Oper.mk _ (Op.load 37 _) _ _ _ (some _) :: _) _ _); refine loadgB (K1) rfl rfl rfl ?_))
        refine (l10Slide_any f k r _ HR.out HV.out hk).mono ?_
        rintro e w5 ⟨rfl, hb⟩
        have K1 := (K1.below hb K1.lt).alloc (.cells (mk 16 (rB (mgF r) f k)) 37)
        have KL2 := Lib.hid (K2.below hb K2.lt).lt
        have K2 := (K2.below hb K2.lt).alloc (.cells (mk 16 (rB (mgF r) f k)) 37)
        have K8 := Blk.new w5 16 (rB (mgF r) f k) 37
        have HB : Hid (Below w.heap.size w w5) := HB.out.trans (hb.mono HB.out.size)
        have HB : Hid (Below w.heap.size w (w5.alloc (.cells (mk 16 (rB (mgF r) f k)) 37))) := HB.out.alloc HB.out.size _
        clear hb
        go_wp2_with fail
        have HL : Hid (w.heap.size + 1 < w5.heap.size) := KL2.out
        generalize w5.alloc (.cells (mk 16 (rB (mgF r) f k)) 37) = wr at *
        generalize w5.heap.size = b8 at *
        refine wp_region_held_drew (S := fun W => Blk W w.heap.size 16 f 37 ∧ Blk W b8 16 (rB (mgF r) f k) 37) (by kernel_rfl) (⟨K1.drew, K8.drew⟩) (fun hHeld => ?_)
        have K1 : Blk wr.drew w.heap.size 16 f 37 := K1.drew
        have K2 : Blk wr.drew (w.heap.size + 1) 16 (fun _ => 0) 37 := K2.drew
        have K8 : Blk wr.drew b8 16 (rB (mgF r) f k) 37 := K8.drew
        have HB : Hid (Below w.heap.size w wr.drew) := HB.out.drew
        generalize wr.drew = x0 at *
        refine wpAnyH_take (i := 0) (oi := { dst := some 28, op := _, type := _, pos := _, after := _, guard := _ }) (v := .agg (mk 16 (rB (mgF r) f k))) rfl (by kernel_rfl) (by kernel_rfl) (by kernel_rfl) (fun _ _ _ h => h) (Or.inl ⟨by rfl, fun _ q => execB q.2 rfl rfl⟩) (by assumption) ?_
        try simp only [Act.put, List.setIfInBounds_toArray, List.set_cons_zero, List.set_cons_succ]
        refine wpAnyH_take (i := 1) (oi := { dst := some 29, op := _, type := _, pos := _, after := _, guard := _ }) (v := .agg (mk 16 f)) rfl (by kernel_rfl) (by kernel_rfl) (by kernel_rfl) (fun _ _ _ h => h) (Or.inl ⟨by rfl, fun _ q => execB q.1 rfl rfl⟩) (by assumption) ?_
        try simp only [Act.put, List.setIfInBounds_toArray, List.set_cons_zero, List.set_cons_succ]
        refine wpAnyH_take (i := 3) (oi := { dst := some 31, op := _, type := _, pos := _, after := _, guard := _ }) (v := .agg (mk 16 (rB (mgF r) f k))) rfl (by kernel_rfl) (by kernel_rfl) (by kernel_rfl) (fun _ _ _ h => h) (Or.inl ⟨by rfl, fun _ q => execB q.2 rfl rfl⟩) (by assumption) ?_
        try simp only [Act.put, List.setIfInBounds_toArray, List.set_cons_zero, List.set_cons_succ]
        refine wpAnyH_ready (rs := [2]) (by kernel_rfl) (by simp) ?_
        refine AllReadyH.cons rfl (fun K hK => ?_) AllReadyH.nil
        go_simp
        refine (l2Many_any f _).mono ?_
        rintro e x1 ⟨rfl, hb⟩
        have K1 := K1.below hb K1.lt
        have K2 := K2.below hb K2.lt
        have K8 := K8.below hb K8.lt
        have HB : Hid (Below w.heap.size w x1) := HB.out.trans (hb.mono HB.out.size)
        clear hb
        go_wp2_with fail
        clear hHeld
        refine hK.out _ _ ⟨K1, K8⟩ (fun hHeld => ?_)
        clear hK K
        try simp only [Act.put, List.setIfInBounds_toArray, List.set_cons_zero, List.set_cons_succ]
        refine wpAnyH_ready (rs := [4]) (by kernel_rfl) (by simp) ?_
        refine AllReadyH.cons rfl (fun K hK => ?_) AllReadyH.nil
        go_simp
        refine (l2Many_any (rB (mgF r) f k) _).mono ?_
        rintro e x2 ⟨rfl, hb⟩
        have K1 := K1.below hb K1.lt
        have K2 := K2.below hb K2.lt
        have K8 := K8.below hb K8.lt
        have HB : Hid (Below w.heap.size w x2) := HB.out.trans (hb.mono HB.out.size)
        clear hb
        go_wp2_with fail
        clear hHeld
        refine hK.out _ _ ⟨K1, K8⟩ (fun hHeld => ?_)
        clear hK K
        try simp only [Act.put, List.setIfInBounds_toArray, List.set_cons_zero, List.set_cons_succ]
        refine wpAnyH_take (i := 5) (oi := { dst := some 33, op := _, type := _, pos := _, after := _, guard := _ }) (v := .int .i64 ((16 - (empN f 16 : Int)) - (16 - (empN (rB (mgF r) f k) 16 : Int)))) rfl (by kernel_rfl) (by kernel_rfl) (by kernel_rfl) (fun _ _ _ h => h) (Or.inl ⟨by rfl, by intro w hSw; clear hSw; go_simp; exact IntWalk.i64_in _ (by omega)⟩) (by assumption) ?_
        try simp only [Act.put, List.setIfInBounds_toArray, List.set_cons_zero, List.set_cons_succ]
        refine wpAnyH_ready (rs := [6]) (by kernel_rfl) (by simp) ?_
        refine AllReadyH.cons rfl (fun K hK => ?_) AllReadyH.nil
        have st1 := run_store_blk (P := Try.prog) (rB (mgF r) f k) K2
        have ms1 : (mk 16 (rB (mgF r) f k)).size = 16 := mk_size 16 _
        go_simp
        clear st1 ms1
        have K1 := K1.rowOther (w.heap.size + 1) (mk 16 (rB (mgF r) f k)) (by omega)
        have K8 := K8.rowOther (w.heap.size + 1) (mk 16 (rB (mgF r) f k)) (by have := HL.out; omega)
        have HB : Hid (Below w.heap.size w (x2.setRow (w.heap.size + 1) (mk 16 (rB (mgF r) f k)))) := below_setRow HB.out (by omega) _
        have K2 := K2.row 16 (rB (mgF r) f k)
        generalize x2.setRow (w.heap.size + 1) (mk 16 (rB (mgF r) f k)) = x3 at *
        clear hHeld
        refine hK.out _ _ ⟨K1, K8⟩ (fun hHeld => ?_)
        clear hK K
        try simp only [Act.put, List.setIfInBounds_toArray, List.set_cons_zero, List.set_cons_succ]
        refine wpAnyH_take (i := 7) (oi := { dst := some 7, op := _, type := _, pos := _, after := _, guard := _ }) (v := .int .i64 ((16 - (empN f 16 : Int)) - (16 - (empN (rB (mgF r) f k) 16 : Int)))) rfl (by kernel_rfl) (by kernel_rfl) (by kernel_rfl) (fun _ _ _ h => h) (Or.inl ⟨by rfl, by intro w hSw; clear hSw; go_simp; (try with_reducible rfl)⟩) (by assumption) ?_
        try simp only [Act.put, List.setIfInBounds_toArray, List.set_cons_zero, List.set_cons_succ]
        refine wpAnyH_take (i := 8) (oi := { dst := some 8, op := _, type := _, pos := _, after := _, guard := _ }) (v := .bool true) rfl (by kernel_rfl) (by kernel_rfl) (by kernel_rfl) (fun _ _ _ h => h) (Or.inl ⟨by rfl, by intro w hSw; clear hSw; go_simp; (try with_reducible rfl)⟩) (by assumption) ?_
        try simp only [Act.put, List.setIfInBounds_toArray, List.set_cons_zero, List.set_cons_succ]
        refine wpAnyH_done (by kernel_rfl) ?_ _
        clear hHeld
        go_wp2_with fail
        try simp only [Exit.inBlock, Exit.then]
        refine retcttB K2 rfl rfl rfl ⟨?_, HB.out⟩
        rw [show rM (mgF r) f k 4 = (16 - (empN f 16 : Int)) - (16 - (empN (rB (mgF r) f k) 16 : Int)) by have := HM.out; omega]
        rfl
      · rw [(r10_no (f := f) (d := d) (r := r) fun h => hR h.2.2).1, (r10_no (f := f) (d := d) (r := r) fun h => hR h.2.2).2.1, (r10_no (f := f) (d := d) (r := r) fun h => hR h.2.2).2.2]
        have HR := Lib.hid hR
        clear hV hD hR
        go_enter Try.func24, Try.ntmps24
        go_wp2_with (first | ((with_reducible show wpList _ _ _ (Oper.mk _ (Op.load 37 _) _ _ _ _ :: _) _ _); refine loadB (K1) rfl rfl rfl ?_) | ((with_reducible show wpList _ _ _ (Oper.mk _ (Op.load 37 _) _ _ _ (some _) :: _) _ _); refine loadgB (K1) rfl rfl rfl ?_))
        refine (l2Board_yes _ _ HV.out).mono ?_
        rintro e wg1 ⟨rfl, hb⟩
        have K1 := K1.below hb K1.lt
        have K2 := K2.below hb K2.lt
        have HB : Hid (Below w.heap.size w wg1) := HB.out.trans (hb.mono HB.out.size)
        clear hb
        go_wp2_with (first | ((with_reducible show wpList _ _ _ (Oper.mk _ (Op.load 37 _) _ _ _ _ :: _) _ _); refine loadB (K1) rfl rfl rfl ?_) | ((with_reducible show wpList _ _ _ (Oper.mk _ (Op.load 37 _) _ _ _ (some _) :: _) _ _); refine loadgB (K1) rfl rfl rfl ?_))
        refine (l2Side_yes _ _ HD.out.1 HD.out.2).mono ?_
        rintro e wg2 ⟨rfl, rfl⟩
        go_wp2_with (first | ((with_reducible show wpList _ _ _ (Oper.mk _ (Op.load 37 _) _ _ _ _ :: _) _ _); refine loadB (K1) rfl rfl rfl ?_) | ((with_reducible show wpList _ _ _ (Oper.mk _ (Op.load 37 _) _ _ _ (some _) :: _) _ _); refine loadgB (K1) rfl rfl rfl ?_))
        refine (l10Rule_no r _ HR.out).mono ?_
        rintro e wg3 ⟨rfl, rfl⟩
        go_wp2_with ((with_reducible show wpList _ _ _ (Oper.mk _ (Op.store 37 _ _) _ _ _ _ :: _) _ _); refine storeB (K2) rfl rfl rfl rfl ?_)
        try simp only [Exit.inBlock, Exit.then]
        exact retcttB (K2.row 16 _) rfl rfl rfl ⟨rfl, below_setRow HB.out (by omega) _⟩
    · rw [(r10_no (f := f) (d := d) (r := r) fun h => hD h.2.1).1, (r10_no (f := f) (d := d) (r := r) fun h => hD h.2.1).2.1, (r10_no (f := f) (d := d) (r := r) fun h => hD h.2.1).2.2]
      have HD := Lib.hid (show d < 0 ∨ 3 < d by omega)
      clear hV hD
      go_enter Try.func24, Try.ntmps24
      go_wp2_with (first | ((with_reducible show wpList _ _ _ (Oper.mk _ (Op.load 37 _) _ _ _ _ :: _) _ _); refine loadB (K1) rfl rfl rfl ?_) | ((with_reducible show wpList _ _ _ (Oper.mk _ (Op.load 37 _) _ _ _ (some _) :: _) _ _); refine loadgB (K1) rfl rfl rfl ?_))
      refine (l2Board_yes _ _ HV.out).mono ?_
      rintro e wg1 ⟨rfl, hb⟩
      have K1 := K1.below hb K1.lt
      have K2 := K2.below hb K2.lt
      have HB : Hid (Below w.heap.size w wg1) := HB.out.trans (hb.mono HB.out.size)
      clear hb
      go_wp2_with (first | ((with_reducible show wpList _ _ _ (Oper.mk _ (Op.load 37 _) _ _ _ _ :: _) _ _); refine loadB (K1) rfl rfl rfl ?_) | ((with_reducible show wpList _ _ _ (Oper.mk _ (Op.load 37 _) _ _ _ (some _) :: _) _ _); refine loadgB (K1) rfl rfl rfl ?_))
      refine (l2Side_no _ _ HD.out).mono ?_
      rintro e wg2 ⟨rfl, rfl⟩
      go_wp2_with ((with_reducible show wpList _ _ _ (Oper.mk _ (Op.store 37 _ _) _ _ _ _ :: _) _ _); refine storeB (K2) rfl rfl rfl rfl ?_)
      try simp only [Exit.inBlock, Exit.then]
      exact retcttB (K2.row 16 _) rfl rfl rfl ⟨rfl, below_setRow HB.out (by omega) _⟩
  · rw [(r10_no (f := f) (d := d) (r := r) fun h => hV h.1).1, (r10_no (f := f) (d := d) (r := r) fun h => hV h.1).2.1, (r10_no (f := f) (d := d) (r := r) fun h => hV h.1).2.2]
    have HV := Lib.hid hV
    clear hV
    go_enter Try.func24, Try.ntmps24
    go_wp2_with (first | ((with_reducible show wpList _ _ _ (Oper.mk _ (Op.load 37 _) _ _ _ _ :: _) _ _); refine loadB (K1) rfl rfl rfl ?_) | ((with_reducible show wpList _ _ _ (Oper.mk _ (Op.load 37 _) _ _ _ (some _) :: _) _ _); refine loadgB (K1) rfl rfl rfl ?_))
    refine (l2Board_no _ _ HV.out).mono ?_
    rintro e wg1 ⟨rfl, hb⟩
    have K1 := K1.below hb K1.lt
    have K2 := K2.below hb K2.lt
    have HB : Hid (Below w.heap.size w wg1) := HB.out.trans (hb.mono HB.out.size)
    clear hb
    go_wp2_with ((with_reducible show wpList _ _ _ (Oper.mk _ (Op.store 37 _ _) _ _ _ _ :: _) _ _); refine storeB (K2) rfl rfl rfl rfl ?_)
    try simp only [Exit.inBlock, Exit.then]
    exact retcttB (K2.row 16 _) rfl rfl rfl ⟨rfl, below_setRow HB.out (by omega) _⟩
set_option maxHeartbeats 2000000 in
set_option maxRecDepth 20000 in
theorem implSlideBy_any (f : Nat → Int) (d r : Int) (w : World) :
    Calls Try.prog 26 #[.agg (mk 16 f), .int .i64 d, .int .i64 r] w fun e w' => e = .returned (.tuple #[.agg (mk 16 (r10B f d r)), .int .i64 (r10M f d r), .bool (r10O f d r)]) ∧ Below w.heap.size w w' := by
  have z16 := zero16
  have K1 := (Blk.new w 16 f 37).alloc (.cells (mk 16 fun _ => 0) 37)
  have K2 := Blk.new (w.alloc (.cells (mk 16 f) 37)) 16 (fun _ => 0) 37
  have HB := Lib.hid (((Below.refl w.heap.size w).alloc (Nat.le_refl _) (.cells (mk 16 f) 37)).alloc (by simp) (.cells (mk 16 fun _ => 0) 37))
  simp only [World.size_alloc] at K2
  by_cases hR : RlOk r
  · have HR := Lib.hid hR
    have HX := Lib.hid (merges_any r hR)
    have CL : Hid (∀ W, Calls Try.prog 51 #[.int .i64 r] W fun e w' => e = .returned (.tuple #[.iface 112 (.agg #[inR r]), .bool true]) ∧ Below W.heap.size W w') := fun W => lawOf_at r W hR
    generalize inR r = x at *
    by_cases hV : Vd f
    · have HV := Lib.hid hV
      by_cases hD : 0 ≤ d ∧ d ≤ 3
      · have HD := Lib.hid hD
        rw [(r10_yes (f := f) (d := d) (r := r) ⟨hV, hD, hR⟩).1, (r10_yes (f := f) (d := d) (r := r) ⟨hV, hD, hR⟩).2.1, (r10_yes (f := f) (d := d) (r := r) ⟨hV, hD, hR⟩).2.2]
        obtain ⟨k, rfl⟩ := Int.eq_ofNat_of_zero_le hD.1
        have hk : k < 4 := by omega
        rw [Int.toNat_natCast]
        clear hV hD hR
        go_enter Try.func26, Try.ntmps26
        go_wp2_with (first | ((with_reducible show wpList _ _ _ (Oper.mk _ (Op.load 37 _) _ _ _ _ :: _) _ _); refine loadB (K1) rfl rfl rfl ?_) | ((with_reducible show wpList _ _ _ (Oper.mk _ (Op.load 37 _) _ _ _ (some _) :: _) _ _); refine loadgB (K1) rfl rfl rfl ?_))
        refine (CL.out _).mono ?_
        rintro e wg1 ⟨rfl, hb⟩
        have K1 := K1.below hb K1.lt
        have K2 := K2.below hb K2.lt
        have HB : Hid (Below w.heap.size w wg1) := HB.out.trans (hb.mono HB.out.size)
        clear hb
        go_wp2_with (first | ((with_reducible show wpList _ _ _ (Oper.mk _ (Op.load 37 _) _ _ _ _ :: _) _ _); refine loadB (K1) rfl rfl rfl ?_) | ((with_reducible show wpList _ _ _ (Oper.mk _ (Op.load 37 _) _ _ _ (some _) :: _) _ _); refine loadgB (K1) rfl rfl rfl ?_))
        refine (implBoard_yes _ _ HV.out).mono ?_
        rintro e wg2 ⟨rfl, hb⟩
        have K1 := K1.below hb K1.lt
        have K2 := K2.below hb K2.lt
        have HB : Hid (Below w.heap.size w wg2) := HB.out.trans (hb.mono HB.out.size)
        clear hb
        go_wp2_with (first | ((with_reducible show wpList _ _ _ (Oper.mk _ (Op.load 37 _) _ _ _ _ :: _) _ _); refine loadB (K1) rfl rfl rfl ?_) | ((with_reducible show wpList _ _ _ (Oper.mk _ (Op.load 37 _) _ _ _ (some _) :: _) _ _); refine loadgB (K1) rfl rfl rfl ?_))
        refine (isDirection_yes _ _ HD.out.1 HD.out.2).mono ?_
        rintro e wg3 ⟨rfl, rfl⟩
        go_wp2_with fail
        refine wp_region_held_drew (S := fun W => Blk W w.heap.size 16 f 37) (by kernel_rfl) (K1.drew) (fun hHeld => ?_)
        have K1 : Blk wg2.drew w.heap.size 16 f 37 := K1.drew
        have BX : Hid (Below wg2.heap.size wg2 wg2.drew) := (Below.refl _ wg2).drew
        have LK : Hid (w.heap.size < wg2.heap.size) := K1.lt
        generalize wg2.drew = x0 at *
        refine wpAnyH_take (i := 0) (oi := { dst := some 32, op := _, type := _, pos := _, after := _, guard := _ }) (v := .agg (mk 16 f)) rfl (by kernel_rfl) (by kernel_rfl) (by kernel_rfl) (fun _ _ _ h => h) (Or.inl ⟨by rfl, fun _ q => execB q rfl rfl⟩) (by assumption) ?_
        try simp only [Act.put, List.setIfInBounds_toArray, List.set_cons_zero, List.set_cons_succ]
        refine wpAnyH_take (i := 1) (oi := { dst := some 33, op := _, type := _, pos := _, after := _, guard := _ }) (v := .int .i64 (k : Int)) rfl (by kernel_rfl) (by kernel_rfl) (by kernel_rfl) (fun _ _ _ h => h) (Or.inl ⟨by rfl, by intro w hSw; clear hSw; go_simp; (try with_reducible rfl)⟩) (by assumption) ?_
        try simp only [Act.put, List.setIfInBounds_toArray, List.set_cons_zero, List.set_cons_succ]
        refine wpAnyH_take (i := 2) (oi := { dst := some 34, op := _, type := _, pos := _, after := _, guard := _ }) (v := .iface 112 (.agg #[x])) rfl (by kernel_rfl) (by kernel_rfl) (by kernel_rfl) (fun _ _ _ h => h) (Or.inl ⟨by rfl, by intro w hSw; clear hSw; go_simp; (try with_reducible rfl)⟩) (by assumption) ?_
        try simp only [Act.put, List.setIfInBounds_toArray, List.set_cons_zero, List.set_cons_succ]
        refine wpAnyH_take (i := 3) (oi := { dst := some 35, op := _, type := _, pos := _, after := _, guard := _ }) (v := .iface 112 (.agg #[x])) rfl (by kernel_rfl) (by kernel_rfl) (by kernel_rfl) (fun _ _ _ h => h) (Or.inl ⟨by rfl, by intro w hSw; clear hSw; go_simp; (try with_reducible rfl)⟩) (by assumption) ?_
        try simp only [Act.put, List.setIfInBounds_toArray, List.set_cons_zero, List.set_cons_succ]
        refine wpAnyH_take (i := 4) (oi := { dst := some 36, op := _, type := _, pos := _, after := _, guard := _ }) (v := .func (.method "loop.example/g01194/impl.merge") #[.iface 112 (.agg #[x])] #[]) rfl (by kernel_rfl) (by kernel_rfl) (by kernel_rfl) (fun _ _ _ h => h) (Or.inl ⟨by rfl, by intro w hSw; clear hSw; go_simp; (try with_reducible rfl)⟩) (by assumption) ?_
        try simp only [Act.put, List.setIfInBounds_toArray, List.set_cons_zero, List.set_cons_succ]
        refine wpAnyH_ready (rs := [5, 9]) (by kernel_rfl) (by simp) ?_
        refine AllReadyH.cons rfl (fun K hK => ?_) ?_
        · go_simp
          refine (slideBy_nat x (mgF r) HX.out f k _ HV.out hk).mono ?_
          rintro e x1 ⟨rfl, hb⟩
          have K1 := K1.below hb K1.lt
          have BX : Hid (Below wg2.heap.size wg2 x1) := BX.out.trans (hb.mono BX.out.size)
          clear hb
          go_wp2_with fail
          clear hHeld
          refine hK.out _ _ K1 (fun hHeld => ?_)
          clear hK K
          try simp only [Act.put, List.setIfInBounds_toArray, List.set_cons_zero, List.set_cons_succ]
          refine wpAnyH_take (i := 6) (oi := { dst := some 31, op := _, type := _, pos := _, after := _, guard := _ }) (v := .tuple #[.agg (mk 16 (rB (mgF r) f k)), .int .i64 (rM (mgF r) f k 4)]) rfl (by kernel_rfl) (by kernel_rfl) (by kernel_rfl) (fun _ _ _ h => h) (Or.inl ⟨by rfl, by intro w hSw; clear hSw; go_simp; (try with_reducible rfl)⟩) (by assumption) ?_
          try simp only [Act.put, List.setIfInBounds_toArray, List.set_cons_zero, List.set_cons_succ]
          refine wpAnyH_take (i := 7) (oi := { dst := some 38, op := _, type := _, pos := _, after := _, guard := _ }) (v := .agg (mk 16 (rB (mgF r) f k))) rfl (by kernel_rfl) (by kernel_rfl) (by kernel_rfl) (fun _ _ _ h => h) (Or.inl ⟨by rfl, by intro w hSw; clear hSw; go_simp; (try with_reducible rfl)⟩) (by assumption) ?_
          try simp only [Act.put, List.setIfInBounds_toArray, List.set_cons_zero, List.set_cons_succ]
          refine wpAnyH_take (i := 8) (oi := { dst := some 39, op := _, type := _, pos := _, after := _, guard := _ }) (v := .int .i64 (rM (mgF r) f k 4)) rfl (by kernel_rfl) (by kernel_rfl) (by kernel_rfl) (fun _ _ _ h => h) (Or.inl ⟨by rfl, by intro w hSw; clear hSw; go_simp; (try with_reducible rfl)⟩) (by assumption) ?_
          try simp only [Act.put, List.setIfInBounds_toArray, List.set_cons_zero, List.set_cons_succ]
          refine wpAnyH_ready (rs := [9]) (by kernel_rfl) (by simp) ?_
          refine AllReadyH.cons rfl (fun K hK => ?_) AllReadyH.nil
          rw [if_pos (by rfl)]
          refine wp_allocXB rfl ?_
          have K8 := Blk.new x1 16 (fun _ => 0) 37
          have HB8 : Hid (wg2.heap.size ≤ x1.heap.size) := BX.out.size
          have K1 := K1.alloc (.cells (mk 16 fun _ => 0) 37)
          have BX : Hid (Below wg2.heap.size wg2 (x1.alloc (.cells (mk 16 fun _ => 0) 37))) := BX.out.alloc BX.out.size _
          generalize x1.alloc (.cells (mk 16 fun _ => 0) 37) = x2 at *
          generalize x1.heap.size = b8 at *
          clear hHeld
          refine hK.out _ _ K1 (fun hHeld => ?_)
          clear hK K
          try simp only [Act.put, List.setIfInBounds_toArray, List.set_cons_zero, List.set_cons_succ]
          refine wpAnyH_ready (rs := [10]) (by kernel_rfl) (by simp) ?_
          refine AllReadyH.cons rfl (fun K hK => ?_) AllReadyH.nil
          have st1 := run_store_blk (P := Try.prog) (rB (mgF r) f k) K8
          have ms1 : (mk 16 (rB (mgF r) f k)).size = 16 := mk_size 16 _
          go_simp
          clear st1 ms1
          have K1 := K1.rowOther b8 (mk 16 (rB (mgF r) f k)) (by have := HB8.out; have := LK.out; omega)
          have BX : Hid (Below wg2.heap.size wg2 (x2.setRow b8 (mk 16 (rB (mgF r) f k)))) := below_setRow BX.out HB8.out _
          have K8 := K8.row 16 (rB (mgF r) f k)
          generalize x2.setRow b8 (mk 16 (rB (mgF r) f k)) = x3 at *
          clear hHeld
          refine hK.out _ _ K1 (fun hHeld => ?_)
          clear hK K
          try simp only [Act.put, List.setIfInBounds_toArray, List.set_cons_zero, List.set_cons_succ]
          refine wpAnyH_take (i := 11) (oi := { dst := some 12, op := _, type := _, pos := _, after := _, guard := _ }) (v := .int .i64 (rM (mgF r) f k 4)) rfl (by kernel_rfl) (by kernel_rfl) (by kernel_rfl) (fun _ _ _ h => h) (Or.inl ⟨by rfl, by intro w hSw; clear hSw; go_simp; (try with_reducible rfl)⟩) (by assumption) ?_
          try simp only [Act.put, List.setIfInBounds_toArray, List.set_cons_zero, List.set_cons_succ]
          refine wpAnyH_done (by kernel_rfl) ?_ _
          clear hHeld
          have K2 := K2.below BX.out K2.lt
          have HB : Hid (Below w.heap.size w x3) := HB.out.trans (BX.out.mono HB.out.size)
          go_wp2_with (first | ((with_reducible show wpList _ _ _ (Oper.mk _ (Op.load 37 _) _ _ _ _ :: _) _ _); refine loadB (K8) rfl rfl rfl ?_) | ((with_reducible show wpList _ _ _ (Oper.mk _ (Op.store 37 _ _) _ _ _ _ :: _) _ _); refine storeB (K2) rfl rfl rfl rfl ?_))
          try simp only [Exit.inBlock, Exit.then]
          exact retcttB (K2.row 16 _) rfl rfl rfl ⟨rfl, below_setRow HB.out (by omega) _⟩
        refine AllReadyH.cons rfl (fun K hK => ?_) AllReadyH.nil
        rw [if_pos (by rfl)]
        refine wp_allocXB rfl ?_
        have K8 := Blk.new x0 16 (fun _ => 0) 37
        have HB8 : Hid (wg2.heap.size ≤ x0.heap.size) := BX.out.size
        have K1 := K1.alloc (.cells (mk 16 fun _ => 0) 37)
        have BX : Hid (Below wg2.heap.size wg2 (x0.alloc (.cells (mk 16 fun _ => 0) 37))) := BX.out.alloc BX.out.size _
        generalize x0.alloc (.cells (mk 16 fun _ => 0) 37) = x1 at *
        generalize x0.heap.size = b8 at *
        clear hHeld
        refine hK.out _ _ K1 (fun hHeld => ?_)
        clear hK K
        try simp only [Act.put, List.setIfInBounds_toArray, List.set_cons_zero, List.set_cons_succ]
        refine wpAnyH_ready (rs := [5]) (by kernel_rfl) (by simp) ?_
        refine AllReadyH.cons rfl (fun K hK => ?_) AllReadyH.nil
        go_simp
        refine (slideBy_nat x (mgF r) HX.out f k _ HV.out hk).mono ?_
        rintro e x2 ⟨rfl, hb⟩
        have K1 := K1.below hb K1.lt
        have BX : Hid (Below wg2.heap.size wg2 x2) := BX.out.trans (hb.mono BX.out.size)
        have K8 := K8.below hb K8.lt
        clear hb
        go_wp2_with fail
        clear hHeld
        refine hK.out _ _ K1 (fun hHeld => ?_)
        clear hK K
        try simp only [Act.put, List.setIfInBounds_toArray, List.set_cons_zero, List.set_cons_succ]
        refine wpAnyH_take (i := 6) (oi := { dst := some 31, op := _, type := _, pos := _, after := _, guard := _ }) (v := .tuple #[.agg (mk 16 (rB (mgF r) f k)), .int .i64 (rM (mgF r) f k 4)]) rfl (by kernel_rfl) (by kernel_rfl) (by kernel_rfl) (fun _ _ _ h => h) (Or.inl ⟨by rfl, by intro w hSw; clear hSw; go_simp; (try with_reducible rfl)⟩) (by assumption) ?_
        try simp only [Act.put, List.setIfInBounds_toArray, List.set_cons_zero, List.set_cons_succ]
        refine wpAnyH_take (i := 7) (oi := { dst := some 38, op := _, type := _, pos := _, after := _, guard := _ }) (v := .agg (mk 16 (rB (mgF r) f k))) rfl (by kernel_rfl) (by kernel_rfl) (by kernel_rfl) (fun _ _ _ h => h) (Or.inl ⟨by rfl, by intro w hSw; clear hSw; go_simp; (try with_reducible rfl)⟩) (by assumption) ?_
        try simp only [Act.put, List.setIfInBounds_toArray, List.set_cons_zero, List.set_cons_succ]
        refine wpAnyH_take (i := 8) (oi := { dst := some 39, op := _, type := _, pos := _, after := _, guard := _ }) (v := .int .i64 (rM (mgF r) f k 4)) rfl (by kernel_rfl) (by kernel_rfl) (by kernel_rfl) (fun _ _ _ h => h) (Or.inl ⟨by rfl, by intro w hSw; clear hSw; go_simp; (try with_reducible rfl)⟩) (by assumption) ?_
        try simp only [Act.put, List.setIfInBounds_toArray, List.set_cons_zero, List.set_cons_succ]
        refine wpAnyH_ready (rs := [10]) (by kernel_rfl) (by simp) ?_
        refine AllReadyH.cons rfl (fun K hK => ?_) AllReadyH.nil
        have st1 := run_store_blk (P := Try.prog) (rB (mgF r) f k) K8
        have ms1 : (mk 16 (rB (mgF r) f k)).size = 16 := mk_size 16 _
        go_simp
        clear st1 ms1
        have K1 := K1.rowOther b8 (mk 16 (rB (mgF r) f k)) (by have := HB8.out; have := LK.out; omega)
        have BX : Hid (Below wg2.heap.size wg2 (x2.setRow b8 (mk 16 (rB (mgF r) f k)))) := below_setRow BX.out HB8.out _
        have K8 := K8.row 16 (rB (mgF r) f k)
        generalize x2.setRow b8 (mk 16 (rB (mgF r) f k)) = x3 at *
        clear hHeld
        refine hK.out _ _ K1 (fun hHeld => ?_)
        clear hK K
        try simp only [Act.put, List.setIfInBounds_toArray, List.set_cons_zero, List.set_cons_succ]
        refine wpAnyH_take (i := 11) (oi := { dst := some 12, op := _, type := _, pos := _, after := _, guard := _ }) (v := .int .i64 (rM (mgF r) f k 4)) rfl (by kernel_rfl) (by kernel_rfl) (by kernel_rfl) (fun _ _ _ h => h) (Or.inl ⟨by rfl, by intro w hSw; clear hSw; go_simp; (try with_reducible rfl)⟩) (by assumption) ?_
        try simp only [Act.put, List.setIfInBounds_toArray, List.set_cons_zero, List.set_cons_succ]
        refine wpAnyH_done (by kernel_rfl) ?_ _
        clear hHeld
        have K2 := K2.below BX.out K2.lt
        have HB : Hid (Below w.heap.size w x3) := HB.out.trans (BX.out.mono HB.out.size)
        go_wp2_with (first | ((with_reducible show wpList _ _ _ (Oper.mk _ (Op.load 37 _) _ _ _ _ :: _) _ _); refine loadB (K8) rfl rfl rfl ?_) | ((with_reducible show wpList _ _ _ (Oper.mk _ (Op.store 37 _ _) _ _ _ _ :: _) _ _); refine storeB (K2) rfl rfl rfl rfl ?_))
        try simp only [Exit.inBlock, Exit.then]
        exact retcttB (K2.row 16 _) rfl rfl rfl ⟨rfl, below_setRow HB.out (by omega) _⟩
      · rw [(r10_no (f := f) (d := d) (r := r) fun h => hD h.2.1).1, (r10_no (f := f) (d := d) (r := r) fun h => hD h.2.1).2.1, (r10_no (f := f) (d := d) (r := r) fun h => hD h.2.1).2.2]
        have HD := Lib.hid (show d < 0 ∨ 3 < d by omega)
        clear hR hV hD
        go_enter Try.func26, Try.ntmps26
        go_wp2_with (first | ((with_reducible show wpList _ _ _ (Oper.mk _ (Op.load 37 _) _ _ _ _ :: _) _ _); refine loadB (K1) rfl rfl rfl ?_) | ((with_reducible show wpList _ _ _ (Oper.mk _ (Op.load 37 _) _ _ _ (some _) :: _) _ _); refine loadgB (K1) rfl rfl rfl ?_))
        refine (CL.out _).mono ?_
        rintro e wg1 ⟨rfl, hb⟩
        have K1 := K1.below hb K1.lt
        have K2 := K2.below hb K2.lt
        have HB : Hid (Below w.heap.size w wg1) := HB.out.trans (hb.mono HB.out.size)
        clear hb
        go_wp2_with (first | ((with_reducible show wpList _ _ _ (Oper.mk _ (Op.load 37 _) _ _ _ _ :: _) _ _); refine loadB (K1) rfl rfl rfl ?_) | ((with_reducible show wpList _ _ _ (Oper.mk _ (Op.load 37 _) _ _ _ (some _) :: _) _ _); refine loadgB (K1) rfl rfl rfl ?_))
        refine (implBoard_yes _ _ HV.out).mono ?_
        rintro e wg2 ⟨rfl, hb⟩
        have K1 := K1.below hb K1.lt
        have K2 := K2.below hb K2.lt
        have HB : Hid (Below w.heap.size w wg2) := HB.out.trans (hb.mono HB.out.size)
        clear hb
        go_wp2_with (first | ((with_reducible show wpList _ _ _ (Oper.mk _ (Op.load 37 _) _ _ _ _ :: _) _ _); refine loadB (K1) rfl rfl rfl ?_) | ((with_reducible show wpList _ _ _ (Oper.mk _ (Op.load 37 _) _ _ _ (some _) :: _) _ _); refine loadgB (K1) rfl rfl rfl ?_))
        refine (isDirection_no _ _ HD.out).mono ?_
        rintro e wg3 ⟨rfl, rfl⟩
        go_wp2_with ((with_reducible show wpList _ _ _ (Oper.mk _ (Op.store 37 _ _) _ _ _ _ :: _) _ _); refine storeB (K2) rfl rfl rfl rfl ?_)
        try simp only [Exit.inBlock, Exit.then]
        exact retcttB (K2.row 16 _) rfl rfl rfl ⟨rfl, below_setRow HB.out (by omega) _⟩
    · rw [(r10_no (f := f) (d := d) (r := r) fun h => hV h.1).1, (r10_no (f := f) (d := d) (r := r) fun h => hV h.1).2.1, (r10_no (f := f) (d := d) (r := r) fun h => hV h.1).2.2]
      have HV := Lib.hid hV
      clear hR hV
      go_enter Try.func26, Try.ntmps26
      go_wp2_with (first | ((with_reducible show wpList _ _ _ (Oper.mk _ (Op.load 37 _) _ _ _ _ :: _) _ _); refine loadB (K1) rfl rfl rfl ?_) | ((with_reducible show wpList _ _ _ (Oper.mk _ (Op.load 37 _) _ _ _ (some _) :: _) _ _); refine loadgB (K1) rfl rfl rfl ?_))
      refine (CL.out _).mono ?_
      rintro e wg1 ⟨rfl, hb⟩
      have K1 := K1.below hb K1.lt
      have K2 := K2.below hb K2.lt
      have HB : Hid (Below w.heap.size w wg1) := HB.out.trans (hb.mono HB.out.size)
      clear hb
      go_wp2_with (first | ((with_reducible show wpList _ _ _ (Oper.mk _ (Op.load 37 _) _ _ _ _ :: _) _ _); refine loadB (K1) rfl rfl rfl ?_) | ((with_reducible show wpList _ _ _ (Oper.mk _ (Op.load 37 _) _ _ _ (some _) :: _) _ _); refine loadgB (K1) rfl rfl rfl ?_))
      refine (implBoard_no _ _ HV.out).mono ?_
      rintro e wg2 ⟨rfl, hb⟩
      have K1 := K1.below hb K1.lt
      have K2 := K2.below hb K2.lt
      have HB : Hid (Below w.heap.size w wg2) := HB.out.trans (hb.mono HB.out.size)
      clear hb
      go_wp2_with ((with_reducible show wpList _ _ _ (Oper.mk _ (Op.store 37 _ _) _ _ _ _ :: _) _ _); refine storeB (K2) rfl rfl rfl rfl ?_)
      try simp only [Exit.inBlock, Exit.then]
      exact retcttB (K2.row 16 _) rfl rfl rfl ⟨rfl, below_setRow HB.out (by omega) _⟩
  · rw [(r10_no (f := f) (d := d) (r := r) fun h => hR h.2.2).1, (r10_no (f := f) (d := d) (r := r) fun h => hR h.2.2).2.1, (r10_no (f := f) (d := d) (r := r) fun h => hR h.2.2).2.2]
    have HR := Lib.hid hR
    clear hR
    go_enter Try.func26, Try.ntmps26
    go_wp2_with (first | ((with_reducible show wpList _ _ _ (Oper.mk _ (Op.load 37 _) _ _ _ _ :: _) _ _); refine loadB (K1) rfl rfl rfl ?_) | ((with_reducible show wpList _ _ _ (Oper.mk _ (Op.load 37 _) _ _ _ (some _) :: _) _ _); refine loadgB (K1) rfl rfl rfl ?_))
    refine (lawOf_no r _ HR.out).mono ?_
    rintro e wg1 ⟨rfl, hb⟩
    have K1 := K1.below hb K1.lt
    have K2 := K2.below hb K2.lt
    have HB : Hid (Below w.heap.size w wg1) := HB.out.trans (hb.mono HB.out.size)
    clear hb
    go_wp2_with ((with_reducible show wpList _ _ _ (Oper.mk _ (Op.store 37 _ _) _ _ _ _ :: _) _ _); refine storeB (K2) rfl rfl rfl rfl ?_)
    try simp only [Exit.inBlock, Exit.then]
    exact retcttB (K2.row 16 _) rfl rfl rfl ⟨rfl, below_setRow HB.out (by omega) _⟩
end Go.Proofs.Ytblcojacmjbjcaa
