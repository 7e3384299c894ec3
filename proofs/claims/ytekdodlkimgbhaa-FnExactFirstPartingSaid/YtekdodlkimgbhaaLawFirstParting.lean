/-
  Proved: for every two replays, the law FnExactFirstParting returns true, and both replays read as they did. No condition.
-/
import Derived.Test.YtekdodlkimgbhaaPartTop
import Derived.Test.YtekdodlkimgbhaaRepLaw
import Derived.Test.YtekdodlkimgbhaaBaseA
import Derived.Test.YtekdodlkimgbhaaClosed
namespace Go.Proofs.Ytekdodlkimgbhaa.fnExactFirstParting
open Go.ChangeShapes Go.WideShapes Go.ChangeAt Go.RowKit Plain
attribute [local go_sem] store_new store_newR
set_option linter.unusedVariables false
theorem below3 {w a b : World} (h : Below w.heap.size w a) (k : Below a.heap.size a b) : Below w.heap.size w b := h.trans (k.mono h.size)
set_option maxHeartbeats 8000000 in
set_option maxRecDepth 20000 in
theorem walk (w : World) (_ : w.ShapedOpen Try.prog) (a0 : Nat → Int) (s0 : Option Addr) (len0 cap0 : Nat) (hz : IsSteps w s0 len0 cap0) (a1 : Nat → Int) (s1 : Option Addr) (len1 cap1 : Nat) (hz2 : IsSteps w s1 len1 cap1) :
    Calls Try.prog 9 #[.agg (rpl a0 (.slice s0 len0 cap0)), .agg (rpl a1 (.slice s1 len1 cap1))] w fun e w' => e = .returned (.bool true) ∧ Below w.heap.size w w' := by
  have K0 := (Rp.new w a0 (.slice s0 len0 cap0) 28).alloc (.cells (rpl a1 (.slice s1 len1 cap1)) 28)
  have Q0 := Rp.new (w.alloc (.cells (rpl a0 (.slice s0 len0 cap0)) 28)) a1 (.slice s1 len1 cap1) 28
  have HB : Hid (Below w.heap.size w ((w.alloc (.cells (rpl a0 (.slice s0 len0 cap0)) 28)).alloc (.cells (rpl a1 (.slice s1 len1 cap1)) 28))) := ((Below.refl w.heap.size w).alloc (Nat.le_refl _) _).alloc (by simp) _
  simp only [World.size_alloc] at Q0
  have z16 := zero16
  have z17 := zeroRp
  obtain ⟨h, hzr⟩ := hz.srow
  have HZ := Lib.hid hzr
  have hll := hz.len_le
  obtain ⟨h2, hzr2⟩ := hz2.srow
  have HZ2 := Lib.hid hzr2
  have hll2 := hz2.len_le
  clear hzr hz hzr2 hz2
  have HSZ := Lib.hid (fun W => szReplay_any a0 s0 len0 cap0 1048576 W hll (by decide) (Int.le_refl _))
  have HSZ2 := Lib.hid (fun L W => szReplay_any a1 s1 len1 cap1 L W hll2)
  have HSP : ∀ W v v2, KRow 4 W v len0 h → KRow 4 W v2 len1 h2 → len0 ≤ 1048576 → len1 ≤ 1048576 → Calls Try.prog 34 #[.agg (rpl a0 v), .agg (rpl a1 v2)] W fun e w' => e = .returned (.tuple #[.int .i64 (ptgR a0 h len0 a1 h2 len1).1, .bool (ptgR a0 h len0 a1 h2 len1).2]) ∧ Below W.heap.size W w' := fun W v v2 q q2 hn hn2 => specPart_any a0 v len0 h a1 v2 len1 h2 W q hn q2 hn2
  have HIM : ∀ W v v2, KRow 4 W v len0 h → KRow 4 W v2 len1 h2 → len0 ≤ 1048576 → len1 ≤ 1048576 → Calls Try.prog 35 #[.agg (rpl a0 v), .agg (rpl a1 v2)] W fun e w' => e = .returned (.tuple #[.int .i64 (ptgR a0 h len0 a1 h2 len1).1, .bool (ptgR a0 h len0 a1 h2 len1).2]) ∧ Below W.heap.size W w' := fun W v v2 q q2 hn hn2 => implPart_any a0 v len0 h a1 v2 len1 h2 W q hn q2 hn2
  generalize (ptgR a0 h len0 a1 h2 len1).1 = X at *
  generalize (ptgR a0 h len0 a1 h2 len1).2 = O at *
  have HSP := Lib.hid HSP
  have HIM := Lib.hid HIM
  go_enter Try.func9, Try.ntmps9
  go_wp2_with ((with_reducible show wpList _ _ _ (Oper.mk _ (Op.load 28 _) _ _ _ _ :: _) _ _); refine loadRl (K0) rfl rfl rfl ?_)
  refine (HSZ.out _).mono ?_
  rintro e w1 ⟨⟨m, rfl, hm⟩, hb⟩
  have HM := Lib.hid hm
  clear hm HSZ
  have K0 := K0.below hb K0.lt
  have Q0 := Q0.below hb Q0.lt
  have HB : Hid (Below w.heap.size w w1) := below3 HB.out hb
  clear hb
  by_cases hm0 : m < 0
  · go_wp2_with fail
    go_ret
    exact ⟨rfl, HB.out⟩
  · have HN := Lib.hid (HM.out (by omega)).1
    have HQ := Lib.hid (HSZ2.out m) 
    have HML := Lib.hid (show 0 ≤ m ∧ m ≤ 1048576 from ⟨by omega, (HM.out (by omega)).2⟩)
    have n1 : ¬ (m < 0) := hm0
    clear HM HSZ2
    go_wp2_with ((with_reducible show wpList _ _ _ (Oper.mk _ (Op.load 28 _) _ _ _ _ :: _) _ _); refine loadRl (Q0) rfl rfl rfl ?_)
    refine (HQ.out _ HML.out.1 HML.out.2).mono ?_
    rintro e w2 ⟨⟨m2, rfl, hm2⟩, hb⟩
    have HM2 := Lib.hid hm2
    clear hm2 HQ HML
    have K0 := K0.below hb K0.lt
    have Q0 := Q0.below hb Q0.lt
    have HB : Hid (Below w.heap.size w w2) := below3 HB.out hb
    clear hb
    by_cases hm20 : m2 < 0
    · go_wp2_with fail
      go_ret
      exact ⟨rfl, HB.out⟩
    · have HN2 := Lib.hid (HM2.out (by omega)).1
      have n2 : ¬ (m2 < 0) := hm20
      clear HM2
      go_wp2_with fail
      refine wp_region_held_drew (S := fun W => Rp W w.heap.size a0 (.slice s0 len0 cap0) 28 ∧ Rp W (w.heap.size + 1) a1 (.slice s1 len1 cap1) 28 ∧ Below w.heap.size w W) (by kernel_rfl) (⟨K0.drew, Q0.drew, HB.out.drew⟩) (fun hHeld => ?_)
      have K0 : Rp (w2).drew w.heap.size a0 (.slice s0 len0 cap0) 28 := K0.drew
      have Q0 : Rp (w2).drew (w.heap.size + 1) a1 (.slice s1 len1 cap1) 28 := Q0.drew
      have HB : Hid (Below w.heap.size w (w2).drew) := HB.out.drew
      generalize (w2).drew = x0 at *
      refine wpAnyH_take (i := 0) (oi := { dst := some 23, op := _, type := _, pos := _, after := _, guard := _ }) (v := .agg (rpl a0 (.slice s0 len0 cap0))) rfl (by kernel_rfl) (by kernel_rfl) (by kernel_rfl) (fun _ _ _ h => h) (Or.inl ⟨by rfl, fun _ q => execRl q.1 rfl rfl⟩) (by assumption) ?_
      try simp only [Act.put, List.setIfInBounds_toArray, List.set_cons_zero, List.set_cons_succ]
      refine wpAnyH_take (i := 2) (oi := { dst := some 25, op := _, type := _, pos := _, after := _, guard := _ }) (v := .agg (rpl a1 (.slice s1 len1 cap1))) rfl (by kernel_rfl) (by kernel_rfl) (by kernel_rfl) (fun _ _ _ h => h) (Or.inl ⟨by rfl, fun _ q => execRl q.2.1 rfl rfl⟩) (by assumption) ?_
      try simp only [Act.put, List.setIfInBounds_toArray, List.set_cons_zero, List.set_cons_succ]
      refine wpAnyH_ready (rs := [1]) (by kernel_rfl) (by simp) ?_
      refine AllReadyH.cons rfl (fun K hK => ?_) AllReadyH.nil
      go_simp
      refine (toReplay_any a0 _ len0 h _ (HZ.out.below HB.out) HN.out).mono ?_
      rintro e x1 ⟨g1, rfl, r1, _, hb⟩
      have K0 := K0.below hb K0.lt
      have Q0 := Q0.below hb Q0.lt
      have HB : Hid (Below w.heap.size w x1) := below3 HB.out hb
      have CG := r1.at
      clear hb hHeld r1
      go_wp2_with fail
      refine hK.out _ _ ⟨K0, Q0, HB.out⟩ (fun hHeld => ?_)
      clear hK K
      try simp only [Act.put, List.setIfInBounds_toArray, List.set_cons_zero, List.set_cons_succ]
      refine wpAnyH_ready (rs := [3]) (by kernel_rfl) (by simp) ?_
      refine AllReadyH.cons rfl (fun K hK => ?_) AllReadyH.nil
      go_simp
      refine (toReplay_any a1 _ len1 h2 _ (HZ2.out.below HB.out) HN2.out).mono ?_
      rintro e x2 ⟨g2, rfl, r1, _, hb⟩
      have K0 := K0.below hb K0.lt
      have Q0 := Q0.below hb Q0.lt
      have HB : Hid (Below w.heap.size w x2) := below3 HB.out hb
      have CG := CG.below hb
      have CH := r1.at
      clear hb hHeld r1
      go_wp2_with fail
      refine hK.out _ _ ⟨K0, Q0, HB.out⟩ (fun hHeld => ?_)
      clear hK K
      try simp only [Act.put, List.setIfInBounds_toArray, List.set_cons_zero, List.set_cons_succ]
      refine wpAnyH_ready (rs := [4]) (by kernel_rfl) (by simp) ?_
      refine AllReadyH.cons rfl (fun K hK => ?_) AllReadyH.nil
      go_simp
      refine (HSP.out _ _ _ ⟨_, _, rfl, Nat.le_refl _, CG⟩ ⟨_, _, rfl, Nat.le_refl _, CH⟩ HN.out HN2.out).mono ?_
      rintro e x3 ⟨rfl, hb⟩
      have K0 := K0.below hb K0.lt
      have Q0 := Q0.below hb Q0.lt
      have HB : Hid (Below w.heap.size w x3) := below3 HB.out hb
      clear hb hHeld CG CH
      go_wp2_with fail
      refine hK.out _ _ ⟨K0, Q0, HB.out⟩ (fun hHeld => ?_)
      clear hK K
      try simp only [Act.put, List.setIfInBounds_toArray, List.set_cons_zero, List.set_cons_succ]
      refine wpAnyH_take (i := 5) (oi := { dst := some 22, op := _, type := _, pos := _, after := _, guard := _ }) (v := .tuple #[.int .i64 X, .bool O]) rfl (by kernel_rfl) (by kernel_rfl) (by kernel_rfl) (fun _ _ _ h => h) (Or.inl ⟨by rfl, by intro w hSw; clear hSw; go_simp; (try with_reducible rfl)⟩) (by assumption) ?_
      try simp only [Act.put, List.setIfInBounds_toArray, List.set_cons_zero, List.set_cons_succ]
      refine wpAnyH_take (i := 6) (oi := { dst := some 28, op := _, type := _, pos := _, after := _, guard := _ }) (v := .int .i64 X) rfl (by kernel_rfl) (by kernel_rfl) (by kernel_rfl) (fun _ _ _ h => h) (Or.inl ⟨by rfl, by intro w hSw; clear hSw; go_simp; (try with_reducible rfl)⟩) (by assumption) ?_
      try simp only [Act.put, List.setIfInBounds_toArray, List.set_cons_zero, List.set_cons_succ]
      refine wpAnyH_take (i := 7) (oi := { dst := some 29, op := _, type := _, pos := _, after := _, guard := _ }) (v := .bool O) rfl (by kernel_rfl) (by kernel_rfl) (by kernel_rfl) (fun _ _ _ h => h) (Or.inl ⟨by rfl, by intro w hSw; clear hSw; go_simp; (try with_reducible rfl)⟩) (by assumption) ?_
      try simp only [Act.put, List.setIfInBounds_toArray, List.set_cons_zero, List.set_cons_succ]
      refine wpAnyH_take (i := 8) (oi := { dst := some 6, op := _, type := _, pos := _, after := _, guard := _ }) (v := .int .i64 X) rfl (by kernel_rfl) (by kernel_rfl) (by kernel_rfl) (fun _ _ _ h => h) (Or.inl ⟨by rfl, by intro w hSw; clear hSw; go_simp; (try with_reducible rfl)⟩) (by assumption) ?_
      try simp only [Act.put, List.setIfInBounds_toArray, List.set_cons_zero, List.set_cons_succ]
      refine wpAnyH_take (i := 9) (oi := { dst := some 7, op := _, type := _, pos := _, after := _, guard := _ }) (v := .bool O) rfl (by kernel_rfl) (by kernel_rfl) (by kernel_rfl) (fun _ _ _ h => h) (Or.inl ⟨by rfl, by intro w hSw; clear hSw; go_simp; (try with_reducible rfl)⟩) (by assumption) ?_
      try simp only [Act.put, List.setIfInBounds_toArray, List.set_cons_zero, List.set_cons_succ]
      refine wpAnyH_done (by kernel_rfl) ?_ _
      clear hHeld
      go_wp2_with ((with_reducible show wpList _ _ _ (Oper.mk _ (Op.load 28 _) _ _ _ _ :: _) _ _); refine loadRl (K0) rfl rfl rfl ?_)
      refine (toReplay_any a0 _ len0 h _ (HZ.out.below HB.out) HN.out).mono ?_
      rintro e w4 ⟨gx, rfl, r1, _, hb⟩
      have K0 := K0.below hb K0.lt
      have Q0 := Q0.below hb Q0.lt
      have HB : Hid (Below w.heap.size w w4) := below3 HB.out hb
      have CX := r1.at
      clear hb r1
      have K0 := K0.alloc (.cells (rpl a0 (.slice (some ⟨gx, 0, none⟩) len0 len0)) 34)
      have Q0 := Q0.alloc (.cells (rpl a0 (.slice (some ⟨gx, 0, none⟩) len0 len0)) 34)
      have KX := Rp.new w4 a0 (.slice (some ⟨gx, 0, none⟩) len0 len0) 34
      have CX := CX.alloc (.cells (rpl a0 (.slice (some ⟨gx, 0, none⟩) len0 len0)) 34)
      have HB : Hid (Below w.heap.size w (w4.alloc (.cells (rpl a0 (.slice (some ⟨gx, 0, none⟩) len0 len0)) 34))) := HB.out.alloc HB.out.size _
      generalize hbx : w4.heap.size = bx at *
      go_wp2_with ((with_reducible show wpList _ _ _ (Oper.mk _ (Op.load 28 _) _ _ _ _ :: _) _ _); refine loadRl (Q0) rfl rfl rfl ?_)
      refine (toReplay_any a1 _ len1 h2 _ (HZ2.out.below HB.out) HN2.out).mono ?_
      rintro e w5 ⟨gy, rfl, r1, _, hb⟩
      have K0 := K0.below hb K0.lt
      have Q0 := Q0.below hb Q0.lt
      have HB : Hid (Below w.heap.size w w5) := below3 HB.out hb
      have KX := KX.below hb KX.lt
      have CX := CX.below hb
      have CY := r1.at
      clear hb r1 hbx
      have K0 := K0.alloc (.cells (rpl a1 (.slice (some ⟨gy, 0, none⟩) len1 len1)) 34)
      have Q0 := Q0.alloc (.cells (rpl a1 (.slice (some ⟨gy, 0, none⟩) len1 len1)) 34)
      have KX := KX.alloc (.cells (rpl a1 (.slice (some ⟨gy, 0, none⟩) len1 len1)) 34)
      have KY := Rp.new w5 a1 (.slice (some ⟨gy, 0, none⟩) len1 len1) 34
      have CX := CX.alloc (.cells (rpl a1 (.slice (some ⟨gy, 0, none⟩) len1 len1)) 34)
      have CY := CY.alloc (.cells (rpl a1 (.slice (some ⟨gy, 0, none⟩) len1 len1)) 34)
      have HB : Hid (Below w.heap.size w (w5.alloc (.cells (rpl a1 (.slice (some ⟨gy, 0, none⟩) len1 len1)) 34))) := HB.out.alloc HB.out.size _
      generalize hby : w5.heap.size = b2 at *
      go_wp2_with (first | ((with_reducible show wpList _ _ _ (Oper.mk _ (Op.load 34 _) _ _ _ _ :: _) _ _); refine loadRp (KX) rfl rfl rfl ?_) | ((with_reducible show wpList _ _ _ (Oper.mk _ (Op.load 34 _) _ _ _ _ :: _) _ _); refine loadRp (KY) rfl rfl rfl ?_))
      refine (HIM.out _ _ _ ⟨_, _, rfl, Nat.le_refl _, CX⟩ ⟨_, _, rfl, Nat.le_refl _, CY⟩ HN.out HN2.out).mono ?_
      rintro e w6 ⟨rfl, hb⟩
      have K0 := K0.below hb K0.lt
      have Q0 := Q0.below hb Q0.lt
      have KX := KX.below hb KX.lt
      have KY := KY.below hb KY.lt
      have CX := CX.below hb
      have CY := CY.below hb
      have HB : Hid (Below w.heap.size w w6) := below3 HB.out hb
      clear hb hby
      go_wp2_with fail
      refine wp_region_held_drew (S := fun W => Rp W w.heap.size a0 (.slice s0 len0 cap0) 28 ∧ Rp W (w.heap.size + 1) a1 (.slice s1 len1 cap1) 28 ∧ Rp W bx a0 (.slice (some ⟨gx, 0, none⟩) len0 len0) 34 ∧ Rp W b2 a1 (.slice (some ⟨gy, 0, none⟩) len1 len1) 34 ∧ CAt W gx (len0 * 4) h ∧ CAt W gy (len1 * 4) h2 ∧ Below w.heap.size w W) (by kernel_rfl) (⟨K0.drew, Q0.drew, KX.drew, KY.drew, CX.drew, CY.drew, HB.out.drew⟩) (fun hHeld => ?_)
      have K0 : Rp (w6).drew w.heap.size a0 (.slice s0 len0 cap0) 28 := K0.drew
      have Q0 : Rp (w6).drew (w.heap.size + 1) a1 (.slice s1 len1 cap1) 28 := Q0.drew
      have KX : Rp (w6).drew bx a0 (.slice (some ⟨gx, 0, none⟩) len0 len0) 34 := KX.drew
      have KY : Rp (w6).drew b2 a1 (.slice (some ⟨gy, 0, none⟩) len1 len1) 34 := KY.drew
      have CX : CAt (w6).drew gx (len0 * 4) h := CX.drew
      have CY : CAt (w6).drew gy (len1 * 4) h2 := CY.drew
      have HB : Hid (Below w.heap.size w (w6).drew) := HB.out.drew
      generalize (w6).drew = x0 at *
      refine wpAnyH_take (i := 0) (oi := { dst := some 48, op := _, type := _, pos := _, after := _, guard := _ }) (v := .agg (rpl a0 (.slice (some ⟨gx, 0, none⟩) len0 len0))) rfl (by kernel_rfl) (by kernel_rfl) (by kernel_rfl) (fun _ _ _ h => h) (Or.inl ⟨by rfl, fun _ q => execRp q.2.2.1 rfl rfl⟩) (by assumption) ?_
      try simp only [Act.put, List.setIfInBounds_toArray, List.set_cons_zero, List.set_cons_succ]
      refine wpAnyH_take (i := 1) (oi := { dst := some 49, op := _, type := _, pos := _, after := _, guard := _ }) (v := .agg (rpl a0 (.slice s0 len0 cap0))) rfl (by kernel_rfl) (by kernel_rfl) (by kernel_rfl) (fun _ _ _ h => h) (Or.inl ⟨by rfl, fun _ q => execRl q.1 rfl rfl⟩) (by assumption) ?_
      try simp only [Act.put, List.setIfInBounds_toArray, List.set_cons_zero, List.set_cons_succ]
      refine wpAnyH_ready (rs := [2]) (by kernel_rfl) (by simp) ?_
      refine AllReadyH.cons rfl (fun K hK => ?_) AllReadyH.nil
      go_simp
      refine (toReplay_any a0 _ len0 h _ (HZ.out.below HB.out) HN.out).mono ?_
      rintro e x1 ⟨gz, rfl, rz, _, hb⟩
      have K0 := K0.below hb K0.lt
      have Q0 := Q0.below hb Q0.lt
      have KX := KX.below hb KX.lt
      have KY := KY.below hb KY.lt
      have CX := CX.below hb
      have CY := CY.below hb
      have HB : Hid (Below w.heap.size w x1) := below3 HB.out hb
      have CZ := rz.at
      clear hb hHeld rz
      go_wp2_with fail
      refine hK.out _ _ ⟨K0, Q0, KX, KY, CX, CY, HB.out⟩ (fun hHeld => ?_)
      clear hK K
      try simp only [Act.put, List.setIfInBounds_toArray, List.set_cons_zero, List.set_cons_succ]
      refine wpAnyH_ready (rs := [3]) (by kernel_rfl) (by simp) ?_
      refine AllReadyH.cons rfl (fun K hK => ?_) AllReadyH.nil
      go_simp
      refine (eqReplay_yes a0 _ _ len0 h _ ⟨_, _, rfl, Nat.le_refl _, CX⟩ ⟨_, _, rfl, Nat.le_refl _, CZ⟩ HN.out).mono ?_
      rintro e x2 ⟨rfl, hb⟩
      have K0 := K0.below hb K0.lt
      have Q0 := Q0.below hb Q0.lt
      have KX := KX.below hb KX.lt
      have KY := KY.below hb KY.lt
      have CX := CX.below hb
      have CY := CY.below hb
      have HB : Hid (Below w.heap.size w x2) := below3 HB.out hb
      clear hb hHeld CZ
      go_wp2_with fail
      refine hK.out _ _ ⟨K0, Q0, KX, KY, CX, CY, HB.out⟩ (fun hHeld => ?_)
      clear hK K
      try simp only [Act.put, List.setIfInBounds_toArray, List.set_cons_zero, List.set_cons_succ]
      refine wpAnyH_take (i := 4) (oi := { dst := some 52, op := _, type := _, pos := _, after := _, guard := _ }) (v := .bool false) rfl (by kernel_rfl) (by kernel_rfl) (by kernel_rfl) (fun _ _ _ h => h) (Or.inl ⟨by rfl, by intro w hSw; clear hSw; go_simp; (try with_reducible rfl)⟩) (by assumption) ?_
      try simp only [Act.put, List.setIfInBounds_toArray, List.set_cons_zero, List.set_cons_succ]
      refine wpAnyH_done (by kernel_rfl) ?_ _
      clear hHeld
      generalize x2 = w7 at *
      go_wp2_with fail
      refine wp_region_held_drew (S := fun W => Rp W w.heap.size a0 (.slice s0 len0 cap0) 28 ∧ Rp W (w.heap.size + 1) a1 (.slice s1 len1 cap1) 28 ∧ Rp W bx a0 (.slice (some ⟨gx, 0, none⟩) len0 len0) 34 ∧ Rp W b2 a1 (.slice (some ⟨gy, 0, none⟩) len1 len1) 34 ∧ CAt W gx (len0 * 4) h ∧ CAt W gy (len1 * 4) h2 ∧ Below w.heap.size w W) (by kernel_rfl) (⟨K0.drew, Q0.drew, KX.drew, KY.drew, CX.drew, CY.drew, HB.out.drew⟩) (fun hHeld => ?_)
      have K0 : Rp (w7).drew w.heap.size a0 (.slice s0 len0 cap0) 28 := K0.drew
      have Q0 : Rp (w7).drew (w.heap.size + 1) a1 (.slice s1 len1 cap1) 28 := Q0.drew
      have KX : Rp (w7).drew bx a0 (.slice (some ⟨gx, 0, none⟩) len0 len0) 34 := KX.drew
      have KY : Rp (w7).drew b2 a1 (.slice (some ⟨gy, 0, none⟩) len1 len1) 34 := KY.drew
      have CX : CAt (w7).drew gx (len0 * 4) h := CX.drew
      have CY : CAt (w7).drew gy (len1 * 4) h2 := CY.drew
      have HB : Hid (Below w.heap.size w (w7).drew) := HB.out.drew
      generalize (w7).drew = x0 at *
      refine wpAnyH_take (i := 0) (oi := { dst := some 53, op := _, type := _, pos := _, after := _, guard := _ }) (v := .agg (rpl a1 (.slice (some ⟨gy, 0, none⟩) len1 len1))) rfl (by kernel_rfl) (by kernel_rfl) (by kernel_rfl) (fun _ _ _ h => h) (Or.inl ⟨by rfl, fun _ q => execRp q.2.2.2.1 rfl rfl⟩) (by assumption) ?_
      try simp only [Act.put, List.setIfInBounds_toArray, List.set_cons_zero, List.set_cons_succ]
      refine wpAnyH_take (i := 1) (oi := { dst := some 54, op := _, type := _, pos := _, after := _, guard := _ }) (v := .agg (rpl a1 (.slice s1 len1 cap1))) rfl (by kernel_rfl) (by kernel_rfl) (by kernel_rfl) (fun _ _ _ h => h) (Or.inl ⟨by rfl, fun _ q => execRl q.2.1 rfl rfl⟩) (by assumption) ?_
      try simp only [Act.put, List.setIfInBounds_toArray, List.set_cons_zero, List.set_cons_succ]
      refine wpAnyH_ready (rs := [2]) (by kernel_rfl) (by simp) ?_
      refine AllReadyH.cons rfl (fun K hK => ?_) AllReadyH.nil
      go_simp
      refine (toReplay_any a1 _ len1 h2 _ (HZ2.out.below HB.out) HN2.out).mono ?_
      rintro e x1 ⟨gz, rfl, rz, _, hb⟩
      have K0 := K0.below hb K0.lt
      have Q0 := Q0.below hb Q0.lt
      have KX := KX.below hb KX.lt
      have KY := KY.below hb KY.lt
      have CX := CX.below hb
      have CY := CY.below hb
      have HB : Hid (Below w.heap.size w x1) := below3 HB.out hb
      have CZ := rz.at
      clear hb hHeld rz
      go_wp2_with fail
      refine hK.out _ _ ⟨K0, Q0, KX, KY, CX, CY, HB.out⟩ (fun hHeld => ?_)
      clear hK K
      try simp only [Act.put, List.setIfInBounds_toArray, List.set_cons_zero, List.set_cons_succ]
      refine wpAnyH_ready (rs := [3]) (by kernel_rfl) (by simp) ?_
      refine AllReadyH.cons rfl (fun K hK => ?_) AllReadyH.nil
      go_simp
      refine (eqReplay_yes a1 _ _ len1 h2 _ ⟨_, _, rfl, Nat.le_refl _, CY⟩ ⟨_, _, rfl, Nat.le_refl _, CZ⟩ HN2.out).mono ?_
      rintro e x2 ⟨rfl, hb⟩
      have K0 := K0.below hb K0.lt
      have Q0 := Q0.below hb Q0.lt
      have KX := KX.below hb KX.lt
      have KY := KY.below hb KY.lt
      have CX := CX.below hb
      have CY := CY.below hb
      have HB : Hid (Below w.heap.size w x2) := below3 HB.out hb
      clear hb hHeld CZ
      go_wp2_with fail
      refine hK.out _ _ ⟨K0, Q0, KX, KY, CX, CY, HB.out⟩ (fun hHeld => ?_)
      clear hK K
      try simp only [Act.put, List.setIfInBounds_toArray, List.set_cons_zero, List.set_cons_succ]
      refine wpAnyH_take (i := 4) (oi := { dst := some 57, op := _, type := _, pos := _, after := _, guard := _ }) (v := .bool false) rfl (by kernel_rfl) (by kernel_rfl) (by kernel_rfl) (fun _ _ _ h => h) (Or.inl ⟨by rfl, by intro w hSw; clear hSw; go_simp; (try with_reducible rfl)⟩) (by assumption) ?_
      try simp only [Act.put, List.setIfInBounds_toArray, List.set_cons_zero, List.set_cons_succ]
      refine wpAnyH_done (by kernel_rfl) ?_ _
      clear hHeld
      go_wp2_with fail
      go_ret
      exact ⟨rfl, HB.out⟩

noncomputable def laidWorld (os : Os) : World := World.holding Try.prog os ⟨#[], #[], []⟩
theorem laid_met (os : Os) : laidMet Try.prog Rows.fnExactFirstPartingRow.laid ((laidWorld os).forCall (fun _ _ => 0) ⟨#[], #[.agg #[.int .i64 0, .int .i64 0, .int .i64 0, .int .i64 0, .int .i64 0, .int .i64 0, .int .i64 0, .int .i64 0, .int .i64 0, .int .i64 0, .int .i64 0, .int .i64 0, .int .i64 0, .int .i64 0, .int .i64 0, .int .i64 0, .slice none 0 0], .agg #[.int .i64 0, .int .i64 0, .int .i64 0, .int .i64 0, .int .i64 0, .int .i64 0, .int .i64 0, .int .i64 0, .int .i64 0, .int .i64 0, .int .i64 0, .int .i64 0, .int .i64 0, .int .i64 0, .int .i64 0, .int .i64 0, .slice none 0 0]], []⟩).memory := laidMet_of_run' 8 (by kernel_rfl) (by kernel_rfl)
theorem reads (os : Os) {H : Type} (enc : TypeId × Value → H) : ∃ places, DataW.whole enc Try.prog ((laidWorld os).forCall (fun _ _ => 0) ⟨#[], #[.agg #[.int .i64 0, .int .i64 0, .int .i64 0, .int .i64 0, .int .i64 0, .int .i64 0, .int .i64 0, .int .i64 0, .int .i64 0, .int .i64 0, .int .i64 0, .int .i64 0, .int .i64 0, .int .i64 0, .int .i64 0, .int .i64 0, .slice none 0 0], .agg #[.int .i64 0, .int .i64 0, .int .i64 0, .int .i64 0, .int .i64 0, .int .i64 0, .int .i64 0, .int .i64 0, .int .i64 0, .int .i64 0, .int .i64 0, .int .i64 0, .int .i64 0, .int .i64 0, .int .i64 0, .int .i64 0, .slice none 0 0]], []⟩).memory Try.f9.params.toList Rows.fnExactFirstPartingSpec.vars false #[.agg #[.int .i64 0, .int .i64 0, .int .i64 0, .int .i64 0, .int .i64 0, .int .i64 0, .int .i64 0, .int .i64 0, .int .i64 0, .int .i64 0, .int .i64 0, .int .i64 0, .int .i64 0, .int .i64 0, .int .i64 0, .int .i64 0, .slice none 0 0], .agg #[.int .i64 0, .int .i64 0, .int .i64 0, .int .i64 0, .int .i64 0, .int .i64 0, .int .i64 0, .int .i64 0, .int .i64 0, .int .i64 0, .int .i64 0, .int .i64 0, .int .i64 0, .int .i64 0, .int .i64 0, .int .i64 0, .slice none 0 0]].toList 8 = some ([.agg [.agg [.agg [.agg [.lit (.int .i64 0), .lit (.int .i64 0), .lit (.int .i64 0), .lit (.int .i64 0)], .agg [.lit (.int .i64 0), .lit (.int .i64 0), .lit (.int .i64 0), .lit (.int .i64 0)], .agg [.lit (.int .i64 0), .lit (.int .i64 0), .lit (.int .i64 0), .lit (.int .i64 0)], .agg [.lit (.int .i64 0), .lit (.int .i64 0), .lit (.int .i64 0), .lit (.int .i64 0)]]], .nil], .agg [.agg [.agg [.agg [.lit (.int .i64 0), .lit (.int .i64 0), .lit (.int .i64 0), .lit (.int .i64 0)], .agg [.lit (.int .i64 0), .lit (.int .i64 0), .lit (.int .i64 0), .lit (.int .i64 0)], .agg [.lit (.int .i64 0), .lit (.int .i64 0), .lit (.int .i64 0), .lit (.int .i64 0)], .agg [.lit (.int .i64 0), .lit (.int .i64 0), .lit (.int .i64 0), .lit (.int .i64 0)]]], .nil]], [], places) :=
  ⟨[], by kernel_rfl⟩
set_option linter.unusedVariables false in
set_option maxRecDepth 100000 in
theorem lifted (os : Os) (started : os.Started) (H : Type) (enc : TypeId × Value → H) (F : Stop.Interp) :
    ReturnsInHanded {} Try.checked os 9 .any ((OpenSpec.ofChange Rows.fnExactFirstPartingSpec).preRow enc Try.prog Try.f9 Rows.fnExactFirstPartingRow.domain false Rows.fnExactFirstPartingRow.laid) (((OpenSpec.ofChange Rows.fnExactFirstPartingSpec).at F).post enc Try.prog Try.f9 false true false false) := by
  obtain ⟨places, hx⟩ := reads os enc
  refine returnsInHanded_of_row (C := Try.checked) (s := (OpenSpec.ofChange Rows.fnExactFirstPartingSpec)) own started (by kernel_rfl) Try.func9
    (witness_row_at (enc := enc) (C := Try.checked) false (laidWorld os) #[.agg #[.int .i64 0, .int .i64 0, .int .i64 0, .int .i64 0, .int .i64 0, .int .i64 0, .int .i64 0, .int .i64 0, .int .i64 0, .int .i64 0, .int .i64 0, .int .i64 0, .int .i64 0, .int .i64 0, .int .i64 0, .int .i64 0, .slice none 0 0], .agg #[.int .i64 0, .int .i64 0, .int .i64 0, .int .i64 0, .int .i64 0, .int .i64 0, .int .i64 0, .int .i64 0, .int .i64 0, .int .i64 0, .int .i64 0, .int .i64 0, .int .i64 0, .int .i64 0, .int .i64 0, .int .i64 0, .slice none 0 0]] rfl (by kernel_rfl) (by kernel_rfl) (by kernel_rfl)
      (OpenSpec.preRow_of_cond 8 hx (by kernel_rfl) (fun k hk => by cases hk) (by kernel_rfl) (laid_met os))) ?_
  intro W base args ds gs before hval0 hW _ hcond hsz hL hsh _
  have hval : ∀ (j : Nat) t v, Try.f9.params[j]? = some t → args[j]? = some v → Value.okWide Try.prog W .any base t v := hval0
  have hW' := hW
  obtain ⟨p, q, hA0, hV, rfl, hfz, hnd⟩ := hW
  have hA : DataW.TrodAll enc Try.prog W 0 (fun _ => true) true Try.f9.params.toList args.toList ds p := hA0
  rw [Try.params9] at hA hval
  obtain ⟨v0, vs0, d0, ds0, p0, q0, hargs, rfl, rfl, h0, r0⟩ := trodAll_cons hA
  obtain ⟨v1, vs1, d1, ds1, p1, q1, rfl, rfl, rfl, h1, r1⟩ := trodAll_cons r0
  obtain ⟨rfl, rfl, rfl⟩ := trodAll_nil r1
  obtain rfl : args = #[v0, v1] := by cases args; simp_all
  obtain ⟨rfl, rfl⟩ := trodVars_none hV
  obtain ⟨a0, s0, len0, cap0, rfl, w0⟩ := open_replay Try.underlying28 rfl rfl rfl rfl Try.underlying25 rfl rfl Try.underlying23 Try.underlying22 Try.underlying3 Try.underlying26 Try.underlying46 rfl rfl rfl rfl rfl rfl Try.underlying44 cellsRl cellsK (by kernel_rfl) cellsG cellsR cellsI cellsU cellsC (hval 0 28 v0 rfl rfl) h0
  have k0 := h0
  have lt0 : ∀ x ∈ p0, x.block < W.heap.size := by obtain ⟨m, hm⟩ := k0; exact DataW.trod_lt m _ _ _ hm
  obtain ⟨a1, s1, len1, cap1, rfl, w1⟩ := open_replay Try.underlying28 rfl rfl rfl rfl Try.underlying25 rfl rfl Try.underlying23 Try.underlying22 Try.underlying3 Try.underlying26 Try.underlying46 rfl rfl rfl rfl rfl rfl Try.underlying44 cellsRl cellsK (by kernel_rfl) cellsG cellsR cellsI cellsU cellsC (hval 1 28 v1 rfl rfl) h1
  have k1 := h1
  have lt1 : ∀ x ∈ p1, x.block < W.heap.size := by obtain ⟨m, hm⟩ := k1; exact DataW.trod_lt m _ _ _ hm
  clear hA0 hval0
  have hwalk : Calls Try.prog 9 #[.agg (rpl a0 (.slice s0 len0 cap0)), .agg (rpl a1 (.slice s1 len1 cap1))] W fun e w' => e = .returned (.bool true) ∧ Below W.heap.size W w' := walk W hsh a0 s0 len0 cap0 w0 a1 s1 len1 cap1 w1
  refine hwalk.mono fun e W' ⟨he, bel⟩ => ?_
  subst he
  exact ⟨_, rfl, _, _, _, [], _, [], hW', trodAll_mk1 (shut_bool Try.underlying4 _), (trodAll_cons_mk (Below.trod laidOut (by kernel_rfl) (of_decide_eq_true (by kernel_rfl)) k0 bel lt0) (trodAll_cons_mk (Below.trod laidOut (by kernel_rfl) (of_decide_eq_true (by kernel_rfl)) k1 bel lt1) trodAll_mk0)), rfl, bel.frame _, fun h => by cases h⟩
set_option maxHeartbeats 8000000 in
theorem closed : joinedFacts Try.pinned.checked.prog 9 Try.f9 ((OpenSpec.ofChange Rows.fnExactFirstPartingSpec)).bare Rows.fnExactFirstPartingRow = true := by
  unfold joinedFacts
  repeat' with_reducible refine and_mk ?_ ?_
  case refine_1.refine_1.refine_1.refine_1.refine_1.refine_1.refine_2 => exact enters
  case refine_1.refine_1.refine_1.refine_1.refine_1.refine_2 => exact (show (Rows.fnExactFirstPartingRow.lifted == Try.prog.liftsFinal) = true by rw [final_no]; rfl)
  case refine_1.refine_1.refine_1.refine_1.refine_2 => exact (show (Try.prog.make == some Rows.fnExactFirstPartingRow.make) = true by rw [make_cut]; rfl)
  case refine_1.refine_1.refine_1.refine_1.refine_1.refine_1.refine_1.refine_1.refine_1.refine_1.refine_1.refine_1.refine_1.refine_1.refine_1.refine_1.refine_1.refine_1.refine_1.refine_1.refine_1.refine_1.refine_1.refine_1.refine_1.refine_1.refine_1.refine_1.refine_1.refine_1.refine_2 => exact laidOut
  case refine_1.refine_1.refine_1.refine_1.refine_1.refine_1.refine_1.refine_1.refine_1.refine_1.refine_1.refine_1.refine_1.refine_1.refine_1.refine_1.refine_1.refine_1.refine_1.refine_1.refine_1.refine_1.refine_1.refine_1.refine_1.refine_1.refine_1.refine_1.refine_1.refine_2 => exact maps_rowed
  case refine_1.refine_1.refine_1.refine_1.refine_1.refine_1.refine_1.refine_2 => exact stops_heard
  all_goals (as_aux_lemma => kernel_rfl)
theorem proved : Rows.FnExactFirstPartingSaid :=
  OpenClaim.holds_of_cond 9 Try.f9 rfl rfl rfl rfl rfl rfl rfl ⟨rfl, rfl, rfl, rfl, rfl⟩ rfl rfl rfl rfl rfl (by kernel_rfl) Try.func9 closed
    (of_decide_eq_true (by kernel_rfl)) (by unfold Func.isWrapper; first | (rw [if_pos (by decide +kernel)]; kernel_rfl) | (rw [if_neg (by decide +kernel)]; exact ⟨rfl, rfl⟩))
    (fun os started H enc _ F => by rw [OpenClaim.pre_eq_preRow]; exact lifted os started H enc F)
#print axioms proved
end Go.Proofs.Ytekdodlkimgbhaa.fnExactFirstParting
