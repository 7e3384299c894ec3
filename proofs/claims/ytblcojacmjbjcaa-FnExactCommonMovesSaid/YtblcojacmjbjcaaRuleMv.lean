/-
  The contracts of the program's isMoveBy, MovesBy and IsOverBy, and of the reference's l10Moves, MovesBy and IsOverBy.
-/
import Derived.Test.YtblcojacmjbjcaaRuleTops
import Derived.Test.YtblcojacmjbjcaaRuleRow
import Derived.Test.YtblcojacmjbjcaaRowsKit
import Derived.Test.YtblcojacmjbjcaaPlainA
namespace Go.Proofs.Ytblcojacmjbjcaa
open Go.RowKit Plain
attribute [local go_sem] store_new
set_option linter.unusedVariables false
set_option linter.unusedSimpArgs false
theorem wp_allocXB {w : World} {o : Oper} {a : Act} {K : Act → World → Prop} {Q : Exit → Act → World → Prop} (ho : o.op = .alloc 37)
    (h : K (a.put o.dst (.pointer (some ⟨w.heap.size, 0, none⟩))) (w.alloc (.cells (mk 16 fun _ => 0) 37))) : o.wp Try.prog a w K Q := by
  have z16 := zero16
  unfold Oper.wp
  go_simp
  exact h
theorem slideBy_nat (x : Value) (m : Int → Int → Int) (hx : MergesAs x m) (f : Nat → Int) (d : Nat) (w : World) (hf : Vd f) (hd : d < 4) :
    Calls Try.prog 62 #[.agg (mk 16 f), .int .i64 (d : Int), .func (.method "loop.example/g01194/impl.merge") #[.iface 112 (.agg #[x])] #[]] w fun e w' => e = .returned (.tuple #[.agg (mk 16 (rB m f d)), .int .i64 (rM m f d 4)]) ∧ Below w.heap.size w w' :=
  slideBy_any x m hx f (d : Int) w hf (by omega) (by omega)
theorem rb_out {f : Nat → Int} {r : Int} (h : ¬ RbOk f r) : ¬ Vd f ∨ ¬ RlOk r := by
  unfold RbOk at h
  by_cases hV : Vd f
  · exact .inr fun q => h ⟨hV, q⟩
  · exact .inl hV
set_option maxHeartbeats 2000000 in
set_option maxRecDepth 20000 in
theorem isMoveBy_any (x : Value) (m : Int → Int → Int) (hx : MergesAs x m) (f : Nat → Int) (d : Nat) (w : World) (hV : Vd f) (hd : d < 4) :
    Calls Try.prog 65 #[.agg (mk 16 f), .int .i64 (d : Int), .iface 112 (.agg #[x])] w fun e w' => e = .returned (.bool (rMv m f d)) ∧ Below w.heap.size w w' := by
  have K1 := Blk.new w 16 f 37
  have HB := Lib.hid ((Below.refl w.heap.size w).alloc (Nat.le_refl _) (.cells (mk 16 f) 37))
  have HV := Lib.hid hV
  have HX := Lib.hid hx
  have iN := neqB
  clear hV hx
  go_enter Try.func65, Try.ntmps65
  go_wp2_with fail
  generalize w.alloc (.cells (mk 16 f) 37) = wr at *
  refine wp_region_held_drew (S := fun W => Blk W w.heap.size 16 f 37) (by kernel_rfl) (K1.drew) (fun hHeld => ?_)
  have K1 : Blk wr.drew w.heap.size 16 f 37 := K1.drew
  have BX : Hid (Below wr.heap.size wr wr.drew) := (Below.refl _ wr).drew
  have LK : Hid (w.heap.size < wr.heap.size) := K1.lt
  generalize wr.drew = x0 at *
  refine wpAnyH_take (i := 0) (oi := { dst := some 10, op := _, type := _, pos := _, after := _, guard := _ }) (v := .agg (mk 16 f)) rfl (by kernel_rfl) (by kernel_rfl) (by kernel_rfl) (fun _ _ _ h => h) (Or.inl ⟨by rfl, fun _ q => execB q rfl rfl⟩) (by assumption) ?_
  try simp only [Act.put, List.setIfInBounds_toArray, List.set_cons_zero, List.set_cons_succ]
  refine wpAnyH_take (i := 1) (oi := { dst := some 11, op := _, type := _, pos := _, after := _, guard := _ }) (v := .int .i64 (d : Int)) rfl (by kernel_rfl) (by kernel_rfl) (by kernel_rfl) (fun _ _ _ h => h) (Or.inl ⟨by rfl, by intro w hSw; clear hSw; go_simp; (try with_reducible rfl)⟩) (by assumption) ?_
  try simp only [Act.put, List.setIfInBounds_toArray, List.set_cons_zero, List.set_cons_succ]
  refine wpAnyH_take (i := 2) (oi := { dst := some 12, op := _, type := _, pos := _, after := _, guard := _ }) (v := .iface 112 (.agg #[x])) rfl (by kernel_rfl) (by kernel_rfl) (by kernel_rfl) (fun _ _ _ h => h) (Or.inl ⟨by rfl, by intro w hSw; clear hSw; go_simp; (try with_reducible rfl)⟩) (by assumption) ?_
  try simp only [Act.put, List.setIfInBounds_toArray, List.set_cons_zero, List.set_cons_succ]
  refine wpAnyH_take (i := 3) (oi := { dst := some 13, op := _, type := _, pos := _, after := _, guard := _ }) (v := .iface 112 (.agg #[x])) rfl (by kernel_rfl) (by kernel_rfl) (by kernel_rfl) (fun _ _ _ h => h) (Or.inl ⟨by rfl, by intro w hSw; clear hSw; go_simp; (try with_reducible rfl)⟩) (by assumption) ?_
  try simp only [Act.put, List.setIfInBounds_toArray, List.set_cons_zero, List.set_cons_succ]
  refine wpAnyH_take (i := 4) (oi := { dst := some 14, op := _, type := _, pos := _, after := _, guard := _ }) (v := .func (.method "loop.example/g01194/impl.merge") #[.iface 112 (.agg #[x])] #[]) rfl (by kernel_rfl) (by kernel_rfl) (by kernel_rfl) (fun _ _ _ h => h) (Or.inl ⟨by rfl, by intro w hSw; clear hSw; go_simp; (try with_reducible rfl)⟩) (by assumption) ?_
  try simp only [Act.put, List.setIfInBounds_toArray, List.set_cons_zero, List.set_cons_succ]
  refine wpAnyH_ready (rs := [5, 9]) (by kernel_rfl) (by simp) ?_
  refine AllReadyH.cons rfl (fun K hK => ?_) ?_
  · go_simp
    refine (slideBy_nat x m HX.out f d _ HV.out hd).mono ?_
    rintro e x1 ⟨rfl, hb⟩
    have K1 := K1.below hb K1.lt
    have BX : Hid (Below wr.heap.size wr x1) := BX.out.trans (hb.mono BX.out.size)
    clear hb
    go_wp2_with fail
    clear hHeld
    refine hK.out _ _ K1 (fun hHeld => ?_)
    clear hK K
    try simp only [Act.put, List.setIfInBounds_toArray, List.set_cons_zero, List.set_cons_succ]
    refine wpAnyH_take (i := 6) (oi := { dst := some 9, op := _, type := _, pos := _, after := _, guard := _ }) (v := .tuple #[.agg (mk 16 (rB m f d)), .int .i64 (rM m f d 4)]) rfl (by kernel_rfl) (by kernel_rfl) (by kernel_rfl) (fun _ _ _ h => h) (Or.inl ⟨by rfl, by intro w hSw; clear hSw; go_simp; (try with_reducible rfl)⟩) (by assumption) ?_
    try simp only [Act.put, List.setIfInBounds_toArray, List.set_cons_zero, List.set_cons_succ]
    refine wpAnyH_take (i := 7) (oi := { dst := some 16, op := _, type := _, pos := _, after := _, guard := _ }) (v := .agg (mk 16 (rB m f d))) rfl (by kernel_rfl) (by kernel_rfl) (by kernel_rfl) (fun _ _ _ h => h) (Or.inl ⟨by rfl, by intro w hSw; clear hSw; go_simp; (try with_reducible rfl)⟩) (by assumption) ?_
    try simp only [Act.put, List.setIfInBounds_toArray, List.set_cons_zero, List.set_cons_succ]
    refine wpAnyH_take (i := 8) (oi := { dst := some 17, op := _, type := _, pos := _, after := _, guard := _ }) (v := .int .i64 (rM m f d 4)) rfl (by kernel_rfl) (by kernel_rfl) (by kernel_rfl) (fun _ _ _ h => h) (Or.inl ⟨by rfl, by intro w hSw; clear hSw; go_simp; (try with_reducible rfl)⟩) (by assumption) ?_
    try simp only [Act.put, List.setIfInBounds_toArray, List.set_cons_zero, List.set_cons_succ]
    refine wpAnyH_ready (rs := [9]) (by kernel_rfl) (by simp) ?_
    refine AllReadyH.cons rfl (fun K hK => ?_) AllReadyH.nil
    rw [if_pos (by rfl)]
    refine wp_allocXB rfl ?_
    have K8 := Blk.new x1 16 (fun _ => 0) 37
    have HB8 : Hid (wr.heap.size ≤ x1.heap.size) := BX.out.size
    have K1 := K1.alloc (.cells (mk 16 fun _ => 0) 37)
    have BX : Hid (Below wr.heap.size wr (x1.alloc (.cells (mk 16 fun _ => 0) 37))) := BX.out.alloc BX.out.size _
    generalize x1.alloc (.cells (mk 16 fun _ => 0) 37) = x2 at *
    generalize x1.heap.size = b8 at *
    clear hHeld
    refine hK.out _ _ K1 (fun hHeld => ?_)
    clear hK K
    try simp only [Act.put, List.setIfInBounds_toArray, List.set_cons_zero, List.set_cons_succ]
    refine wpAnyH_ready (rs := [10]) (by kernel_rfl) (by simp) ?_
    refine AllReadyH.cons rfl (fun K hK => ?_) AllReadyH.nil
    have st1 := run_store_blk (P := Try.prog) (rB m f d) K8
    have ms1 : (mk 16 (rB m f d)).size = 16 := mk_size 16 _
    go_simp
    clear st1 ms1
    have K1 := K1.rowOther b8 (mk 16 (rB m f d)) (by have := HB8.out; have := LK.out; omega)
    have BX : Hid (Below wr.heap.size wr (x2.setRow b8 (mk 16 (rB m f d)))) := below_setRow BX.out HB8.out _
    have K8 := K8.row 16 (rB m f d)
    generalize x2.setRow b8 (mk 16 (rB m f d)) = x3 at *
    clear hHeld
    refine hK.out _ _ K1 (fun hHeld => ?_)
    clear hK K
    try simp only [Act.put, List.setIfInBounds_toArray, List.set_cons_zero, List.set_cons_succ]
    refine wpAnyH_take (i := 11) (oi := { dst := some 8, op := _, type := _, pos := _, after := _, guard := _ }) (v := .int .i64 (rM m f d 4)) rfl (by kernel_rfl) (by kernel_rfl) (by kernel_rfl) (fun _ _ _ h => h) (Or.inl ⟨by rfl, by intro w hSw; clear hSw; go_simp; (try with_reducible rfl)⟩) (by assumption) ?_
    try simp only [Act.put, List.setIfInBounds_toArray, List.set_cons_zero, List.set_cons_succ]
    refine wpAnyH_done (by kernel_rfl) ?_ _
    clear hHeld
    have HB : Hid (Below w.heap.size w x3) := HB.out.trans (BX.out.mono HB.out.size)
    go_wp2_with (first | ((with_reducible show wpList _ _ _ (Oper.mk _ (Op.load 37 _) _ _ _ _ :: _) _ _); refine loadB (K1) rfl rfl rfl ?_) | ((with_reducible show wpList _ _ _ (Oper.mk _ (Op.load 37 _) _ _ _ _ :: _) _ _); refine loadB (K8) rfl rfl rfl ?_))
    go_ret
    exact ⟨rfl, HB.out⟩
  refine AllReadyH.cons rfl (fun K hK => ?_) AllReadyH.nil
  rw [if_pos (by rfl)]
  refine wp_allocXB rfl ?_
  have K8 := Blk.new x0 16 (fun _ => 0) 37
  have HB8 : Hid (wr.heap.size ≤ x0.heap.size) := BX.out.size
  have K1 := K1.alloc (.cells (mk 16 fun _ => 0) 37)
  have BX : Hid (Below wr.heap.size wr (x0.alloc (.cells (mk 16 fun _ => 0) 37))) := BX.out.alloc BX.out.size _
  generalize x0.alloc (.cells (mk 16 fun _ => 0) 37) = x1 at *
  generalize x0.heap.size = b8 at *
  clear hHeld
  refine hK.out _ _ K1 (fun hHeld => ?_)
  clear hK K
  try simp only [Act.put, List.setIfInBounds_toArray, List.set_cons_zero, List.set_cons_succ]
  refine wpAnyH_ready (rs := [5]) (by kernel_rfl) (by simp) ?_
  refine AllReadyH.cons rfl (fun K hK => ?_) AllReadyH.nil
  go_simp
  refine (slideBy_nat x m HX.out f d _ HV.out hd).mono ?_
  rintro e x2 ⟨rfl, hb⟩
  have K1 := K1.below hb K1.lt
  have BX : Hid (Below wr.heap.size wr x2) := BX.out.trans (hb.mono BX.out.size)
  have K8 := K8.below hb K8.lt
  clear hb
  go_wp2_with fail
  clear hHeld
  refine hK.out _ _ K1 (fun hHeld => ?_)
  clear hK K
  try simp only [Act.put, List.setIfInBounds_toArray, List.set_cons_zero, List.set_cons_succ]
  refine wpAnyH_take (i := 6) (oi := { dst := some 9, op := _, type := _, pos := _, after := _, guard := _ }) (v := .tuple #[.agg (mk 16 (rB m f d)), .int .i64 (rM m f d 4)]) rfl (by kernel_rfl) (by kernel_rfl) (by kernel_rfl) (fun _ _ _ h => h) (Or.inl ⟨by rfl, by intro w hSw; clear hSw; go_simp; (try with_reducible rfl)⟩) (by assumption) ?_
  try simp only [Act.put, List.setIfInBounds_toArray, List.set_cons_zero, List.set_cons_succ]
  refine wpAnyH_take (i := 7) (oi := { dst := some 16, op := _, type := _, pos := _, after := _, guard := _ }) (v := .agg (mk 16 (rB m f d))) rfl (by kernel_rfl) (by kernel_rfl) (by kernel_rfl) (fun _ _ _ h => h) (Or.inl ⟨by rfl, by intro w hSw; clear hSw; go_simp; (try with_reducible rfl)⟩) (by assumption) ?_
  try simp only [Act.put, List.setIfInBounds_toArray, List.set_cons_zero, List.set_cons_succ]
  refine wpAnyH_take (i := 8) (oi := { dst := some 17, op := _, type := _, pos := _, after := _, guard := _ }) (v := .int .i64 (rM m f d 4)) rfl (by kernel_rfl) (by kernel_rfl) (by kernel_rfl) (fun _ _ _ h => h) (Or.inl ⟨by rfl, by intro w hSw; clear hSw; go_simp; (try with_reducible rfl)⟩) (by assumption) ?_
  try simp only [Act.put, List.setIfInBounds_toArray, List.set_cons_zero, List.set_cons_succ]
  refine wpAnyH_ready (rs := [10]) (by kernel_rfl) (by simp) ?_
  refine AllReadyH.cons rfl (fun K hK => ?_) AllReadyH.nil
  have st1 := run_store_blk (P := Try.prog) (rB m f d) K8
  have ms1 : (mk 16 (rB m f d)).size = 16 := mk_size 16 _
  go_simp
  clear st1 ms1
  have K1 := K1.rowOther b8 (mk 16 (rB m f d)) (by have := HB8.out; have := LK.out; omega)
  have BX : Hid (Below wr.heap.size wr (x2.setRow b8 (mk 16 (rB m f d)))) := below_setRow BX.out HB8.out _
  have K8 := K8.row 16 (rB m f d)
  generalize x2.setRow b8 (mk 16 (rB m f d)) = x3 at *
  clear hHeld
  refine hK.out _ _ K1 (fun hHeld => ?_)
  clear hK K
  try simp only [Act.put, List.setIfInBounds_toArray, List.set_cons_zero, List.set_cons_succ]
  refine wpAnyH_take (i := 11) (oi := { dst := some 8, op := _, type := _, pos := _, after := _, guard := _ }) (v := .int .i64 (rM m f d 4)) rfl (by kernel_rfl) (by kernel_rfl) (by kernel_rfl) (fun _ _ _ h => h) (Or.inl ⟨by rfl, by intro w hSw; clear hSw; go_simp; (try with_reducible rfl)⟩) (by assumption) ?_
  try simp only [Act.put, List.setIfInBounds_toArray, List.set_cons_zero, List.set_cons_succ]
  refine wpAnyH_done (by kernel_rfl) ?_ _
  clear hHeld
  have HB : Hid (Below w.heap.size w x3) := HB.out.trans (BX.out.mono HB.out.size)
  go_wp2_with (first | ((with_reducible show wpList _ _ _ (Oper.mk _ (Op.load 37 _) _ _ _ _ :: _) _ _); refine loadB (K1) rfl rfl rfl ?_) | ((with_reducible show wpList _ _ _ (Oper.mk _ (Op.load 37 _) _ _ _ _ :: _) _ _); refine loadB (K8) rfl rfl rfl ?_))
  go_ret
  exact ⟨rfl, HB.out⟩
set_option maxHeartbeats 2000000 in
set_option maxRecDepth 20000 in
theorem l10Moves_any (f : Nat → Int) (r : Int) (w : World) (hV : Vd f) (hr : RlOk r) :
    Calls Try.prog 64 #[.agg (mk 16 f), .int .i64 r] w fun e w' => ∃ g cap, e = .returned (.slice (some ⟨g, 0, none⟩) (rML (mgF r) f 4).length cap) ∧
      OwnsInts w' w.heap.size (.slice (some ⟨g, 0, none⟩) (rML (mgF r) f 4).length cap) (rML (mgF r) f 4) ∧ Below w.heap.size w w' := by
  obtain ⟨i0, hi, hz0, hz1, hz2⟩ := info_parts infoInt
  have z16 := zero16
  have HV := Lib.hid hV
  have HR := Lib.hid hr
  clear hV hr
  have K1 := (Blk.new w 16 f 37).alloc (.cells #[] 3)
  have HB := Lib.hid (((Below.refl w.heap.size w).alloc (Nat.le_refl _) (.cells (mk 16 f) 37)).alloc (by simp) (.cells #[] 3))
  have HO : OwnsInts ((w.alloc (.cells (mk 16 f) 37)).alloc (.cells #[] 3)) (w.heap.size + 1) (.slice (some ⟨w.heap.size + 1, 0, none⟩) 0 0) [] := by
    have := World.ownsRow_made (base := w.heap.size + 1) (e := 3) (size := 1) (w.alloc (.cells (mk 16 f) 37)) #[] 0 (by simp) (by decide) rfl
    simp only [World.size_alloc] at this
    exact this
  go_enter Try.func64, Try.ntmps64
  go_wp2_with fail
  go_loopg [5, 6] 4 (fun g s5 s6 wr => ∃ (d : Nat) (v : Value), d + g = 4 ∧ s6 = .int .i64 d ∧ v = s5 ∧ (∃ gg cap, v = .slice (some ⟨gg, 0, none⟩) (rML (mgF r) f d).length cap) ∧ OwnsInts wr (w.heap.size + 1) v (rML (mgF r) f d) ∧ Blk wr w.heap.size 16 f 37 ∧ Hid (Below w.heap.size w wr))
  case atStart => exact ⟨0, _, by omega, rfl, rfl, ⟨_, _, rfl⟩, HO, K1, HB⟩
  case round =>
    clear K1 HO HB
    obtain ⟨d, v, hdg, rfl, rfl, hv, ho, K1, hb⟩ := hrel
    cases gk with
    | zero =>
      have hd : ¬ ((d : Int) < 4) := by omega
      obtain rfl : d = 4 := by omega
      clear hdg hd
      obtain ⟨gg, cap, rfl⟩ := hv
      go_wp2_with fail
      go_ret
      exact ⟨gg, cap, rfl, ownsRow_wide ho (by omega), hb.out⟩
    | succ g =>
      have hd4 : (d : Int) < 4 := by omega
      have hd : d < 4 := by omega
      have HOo := Lib.hid ho
      have HVv := Lib.hid hv
      clear ho hv
      go_wp2_with fail
      refine wp_region_held_drew (S := fun W => Blk W w.heap.size 16 f 37) (by kernel_rfl) (K1.drew) (fun hHeld => ?_)
      have K1 : Blk wr.drew w.heap.size 16 f 37 := K1.drew
      have BX : Hid (Below wr.heap.size wr wr.drew) := (Below.refl _ wr).drew
      generalize wr.drew = x0 at *
      refine wpAnyH_take (i := 0) (oi := { dst := some 12, op := _, type := _, pos := _, after := _, guard := _ }) (v := .agg (mk 16 f)) rfl (by kernel_rfl) (by kernel_rfl) (by kernel_rfl) (fun _ _ _ h => h) (Or.inl ⟨by rfl, fun _ q => execB q rfl rfl⟩) (by assumption) ?_
      try simp only [Act.put, List.setIfInBounds_toArray, List.set_cons_zero, List.set_cons_succ]
      refine wpAnyH_take (i := 1) (oi := { dst := some 13, op := _, type := _, pos := _, after := _, guard := _ }) (v := .int .i64 (d : Int)) rfl (by kernel_rfl) (by kernel_rfl) (by kernel_rfl) (fun _ _ _ h => h) (Or.inl ⟨by rfl, by intro w hSw; clear hSw; go_simp; (try with_reducible rfl)⟩) (by assumption) ?_
      try simp only [Act.put, List.setIfInBounds_toArray, List.set_cons_zero, List.set_cons_succ]
      refine wpAnyH_take (i := 2) (oi := { dst := some 14, op := _, type := _, pos := _, after := _, guard := _ }) (v := .int .i64 r) rfl (by kernel_rfl) (by kernel_rfl) (by kernel_rfl) (fun _ _ _ h => h) (Or.inl ⟨by rfl, by intro w hSw; clear hSw; go_simp; (try with_reducible rfl)⟩) (by assumption) ?_
      try simp only [Act.put, List.setIfInBounds_toArray, List.set_cons_zero, List.set_cons_succ]
      refine wpAnyH_take (i := 4) (oi := { dst := some 16, op := _, type := _, pos := _, after := _, guard := _ }) (v := .agg (mk 16 f)) rfl (by kernel_rfl) (by kernel_rfl) (by kernel_rfl) (fun _ _ _ h => h) (Or.inl ⟨by rfl, fun _ q => execB q rfl rfl⟩) (by assumption) ?_
      try simp only [Act.put, List.setIfInBounds_toArray, List.set_cons_zero, List.set_cons_succ]
      refine wpAnyH_ready (rs := [3]) (by kernel_rfl) (by simp) ?_
      refine AllReadyH.cons rfl (fun K hK => ?_) AllReadyH.nil
      go_simp
      refine (l10Slide_any f d r _ HR.out HV.out hd).mono ?_
      rintro e x1 ⟨rfl, hb9⟩
      have K1 := K1.below hb9 K1.lt
      have BX : Hid (Below wr.heap.size wr x1) := BX.out.trans (hb9.mono BX.out.size)
      clear hb9
      go_wp2_with fail
      clear hHeld
      refine hK.out _ _ K1 (fun hHeld => ?_)
      clear hK K
      try simp only [Act.put, List.setIfInBounds_toArray, List.set_cons_zero, List.set_cons_succ]
      refine wpAnyH_take (i := 5) (oi := { dst := some 17, op := _, type := _, pos := _, after := _, guard := _ }) (v := .bool (!sameB (rB (mgF r) f d) f)) rfl (by kernel_rfl) (by kernel_rfl) (by kernel_rfl) (fun _ _ _ h => h) (Or.inl ⟨by rfl, by intro w hSw; clear hSw; have iN := neqB; go_simp; (try with_reducible rfl)⟩) (by assumption) ?_
      try simp only [Act.put, List.setIfInBounds_toArray, List.set_cons_zero, List.set_cons_succ]
      refine wpAnyH_done (by kernel_rfl) ?_ _
      clear hHeld
      have ho0 : x1.ownsRow (w.heap.size + 1) 3 1 v (rML (mgF r) f d).length ((rML (mgF r) f d).map (Value.int .i64)) := owns_below HOo.out (BX.out.mono (Nat.le_refl _))
      have HB3 : Hid (Below w.heap.size w x1) := hb.out.trans (BX.out.mono hb.out.size)
      have hn := rML_le (mgF r) f d
      have hsz := HB3.out.size
      have hlt := K1.lt
      clear hb BX HOo
      by_cases hm : rMv (mgF r) f d = true
      · have Y := Lib.hid (rML_yes hm)
        have hn4 : (rML (mgF r) f d).length ≤ 4 := by omega
        have hm2 : (!sameB (rB (mgF r) f d) f) = true := hm
        rw [hm2]
        clear hm hm2
        go_wp2_with (at_builtin; refine wpList_append_own _ rfl _ _ 43 rfl (w.heap.size + 1) 3 i0 (.int .i64 0) 1 8 Try.underlying43 hi hz0 hz1 hz2 rfl (by decide) _ _ _ rfl (ho0.alloc _) ⟨x1.heap.size, 0, none⟩ 1 1 [.int .i64 d] rfl rfl ?c1 ?c2 ?c3 ?c4 ?c5 ?_)
        case c1 => exact cell_one_new _ _ _
        case c2 => simp [Value.oneCell']
        case c3 => unfold maxLen; omega
        case c4 => omega
        case c5 => simp; omega
        intro v' w2 hown' hgrow' _
        obtain ⟨gg, cap, hv'⟩ := ownsRow_succ hown'
        have HV' : Hid (∃ gg cap, v' = .slice (some ⟨gg, 0, none⟩) ((rML (mgF r) f d).length + 1) cap) := ⟨gg, cap, hv'⟩
        have HB4 : Hid (Below w.heap.size w w2) := ((HB3.out).alloc HB3.out.size _).grown hgrow' (by simp; omega) (fun j hj => by have := (ho0.lt j hj).1; omega)
        have K2 := (K1.alloc (.cells #[.int .i64 d] 3)).grown hgrow' (fun e => by have := (ho0.lt _ e.symm).1; omega)
        have HO : Hid (OwnsInts w2 (w.heap.size + 1) v' (rML (mgF r) f d ++ [(d : Int)])) := by
          show OwnsInts _ _ _ _
          unfold OwnsInts
          rw [List.map_append, List.length_append]
          exact hown'
        clear hown' hgrow' ho0 hv' K1
        go_wp2_with fail
        go_roundg g
        case rel => exact ⟨d + 1, _, by omega, by go_num, rfl, by rw [Y.out, List.length_append]; exact HV'.out, by rw [Y.out]; exact HO.out, K2, HB4⟩
        case measure => omega
      · have hm : rMv (mgF r) f d = false := by simpa using hm
        have Y := Lib.hid (rML_no hm)
        have hm2 : (!sameB (rB (mgF r) f d) f) = false := hm
        rw [hm2]
        clear hm hm2
        go_wp2_with fail
        go_roundg g
        case rel => exact ⟨d + 1, _, by omega, by go_num, rfl, by rw [Y.out]; exact HVv.out, by rw [Y.out]; exact ho0, K1, HB3⟩
        case measure => omega
set_option maxHeartbeats 1000000 in
set_option maxRecDepth 20000 in
theorem specMovesBy_any (f : Nat → Int) (r : Int) (w : World) :
    Calls Try.prog 28 #[.agg (mk 16 f), .int .i64 r] w fun e w' => ∃ g cap, e = .returned (.tuple #[.slice (some ⟨g, 0, none⟩) (rMR f r).length cap, .bool (rbO f r)]) ∧
      OwnsInts w' w.heap.size (.slice (some ⟨g, 0, none⟩) (rMR f r).length cap) (rMR f r) ∧ Below w.heap.size w w' := by
  have K1 := Blk.new w 16 f 37
  have HB := Lib.hid ((Below.refl w.heap.size w).alloc (Nat.le_refl _) (.cells (mk 16 f) 37))
  by_cases hV : Vd f
  · have HV := Lib.hid hV
    by_cases hr : RlOk r
    · have HR := Lib.hid hr
      rw [(rm_yes ⟨hV, hr⟩).1, (rm_yes ⟨hV, hr⟩).2.1]
      clear hr hV
      go_enter Try.func28, Try.ntmps28
      go_wp2_with ((with_reducible show wpList _ _ _ (Oper.mk _ (Op.load 37 _) _ _ _ _ :: _) _ _); refine loadB (K1) rfl rfl rfl ?_)
      refine (l2Board_yes _ _ HV.out).mono ?_
      rintro e w1 ⟨rfl, hb⟩
      have k1 := K1.below hb K1.lt
      have HB1 : Hid (Below w.heap.size w w1) := HB.out.trans (hb.mono HB.out.size)
      clear hb HB K1
      go_wp2_with fail
      refine (l10Rule_yes r _ HR.out).mono ?_
      rintro e w9 ⟨rfl, rfl⟩
      go_wp2_with ((with_reducible show wpList _ _ _ (Oper.mk _ (Op.load 37 _) _ _ _ _ :: _) _ _); refine loadB (k1) rfl rfl rfl ?_)
      refine (l10Moves_any f r _ HV.out HR.out).mono ?_
      rintro e w2 ⟨g, cap, rfl, ho, hb⟩
      have HB2 : Hid (Below w.heap.size w w2) := HB1.out.trans (hb.mono HB1.out.size)
      have HO := Lib.hid (ownsRow_wide ho HB1.out.size)
      clear hb ho HB1
      go_wp2_with fail
      go_ret2
      exact ⟨g, cap, rfl, HO.out, HB2.out⟩
    · have HR := Lib.hid hr
      rw [(rm_no fun h => hr h.2).1, (rm_no fun h => hr h.2).2.1]
      clear hr hV
      go_enter Try.func28, Try.ntmps28
      go_wp2_with ((with_reducible show wpList _ _ _ (Oper.mk _ (Op.load 37 _) _ _ _ _ :: _) _ _); refine loadB (K1) rfl rfl rfl ?_)
      refine (l2Board_yes _ _ HV.out).mono ?_
      rintro e w1 ⟨rfl, hb⟩
      have HB1 : Hid (Below w.heap.size w w1) := HB.out.trans (hb.mono HB.out.size)
      clear hb HB K1
      go_wp2_with fail
      refine (l10Rule_no r _ HR.out).mono ?_
      rintro e w9 ⟨rfl, rfl⟩
      have HO := Lib.hid (World.ownsRow_made (base := w.heap.size) (e := 3) (size := 1) w1 #[] 0 HB1.out.size (by decide) rfl)
      have HB2 : Hid (Below w.heap.size w (w1.alloc (.cells #[] 3))) := HB1.out.alloc HB1.out.size _
      go_wp2_with fail
      go_ret2
      exact ⟨_, _, rfl, HO.out, HB2.out⟩
  · have HV := Lib.hid hV
    rw [(rm_no fun h => hV h.1).1, (rm_no fun h => hV h.1).2.1]
    clear hV
    go_enter Try.func28, Try.ntmps28
    go_wp2_with ((with_reducible show wpList _ _ _ (Oper.mk _ (Op.load 37 _) _ _ _ _ :: _) _ _); refine loadB (K1) rfl rfl rfl ?_)
    refine (l2Board_no _ _ HV.out).mono ?_
    rintro e w1 ⟨rfl, hb⟩
    have HB1 : Hid (Below w.heap.size w w1) := HB.out.trans (hb.mono HB.out.size)
    clear hb HB K1
    have HO := Lib.hid (World.ownsRow_made (base := w.heap.size) (e := 3) (size := 1) w1 #[] 0 HB1.out.size (by decide) rfl)
    have HB2 : Hid (Below w.heap.size w (w1.alloc (.cells #[] 3))) := HB1.out.alloc HB1.out.size _
    go_wp2_with fail
    go_ret2
    exact ⟨_, _, rfl, HO.out, HB2.out⟩
set_option maxHeartbeats 1000000 in
set_option maxRecDepth 20000 in
theorem specOverBy_any (f : Nat → Int) (r : Int) (w : World) :
    Calls Try.prog 33 #[.agg (mk 16 f), .int .i64 r] w fun e w' => e = .returned (.tuple #[.bool (rOR f r), .bool (rbO f r)]) ∧ Below w.heap.size w w' := by
  have K1 := Blk.new w 16 f 37
  have HB := Lib.hid ((Below.refl w.heap.size w).alloc (Nat.le_refl _) (.cells (mk 16 f) 37))
  by_cases hV : Vd f
  · have HV := Lib.hid hV
    by_cases hr : RlOk r
    · have HR := Lib.hid hr
      rw [(rm_yes ⟨hV, hr⟩).2.2, (rm_yes ⟨hV, hr⟩).2.1]
      have HO : Hid ((((rML (mgF r) f 4).length : Int) == 0) = decide ((rML (mgF r) f 4).length = 0)) := by
        show _ = _
        by_cases h0 : (rML (mgF r) f 4).length = 0
        · rw [h0]; rfl
        · simp [h0]
      clear hr hV
      go_enter Try.func33, Try.ntmps33
      go_wp2_with ((with_reducible show wpList _ _ _ (Oper.mk _ (Op.load 37 _) _ _ _ _ :: _) _ _); refine loadB (K1) rfl rfl rfl ?_)
      refine (l2Board_yes _ _ HV.out).mono ?_
      rintro e w1 ⟨rfl, hb⟩
      have k1 := K1.below hb K1.lt
      have HB1 : Hid (Below w.heap.size w w1) := HB.out.trans (hb.mono HB.out.size)
      clear hb HB K1
      go_wp2_with fail
      refine (l10Rule_yes r _ HR.out).mono ?_
      rintro e w9 ⟨rfl, rfl⟩
      go_wp2_with ((with_reducible show wpList _ _ _ (Oper.mk _ (Op.load 37 _) _ _ _ _ :: _) _ _); refine loadB (k1) rfl rfl rfl ?_)
      refine (l10Moves_any f r _ HV.out HR.out).mono ?_
      rintro e w2 ⟨g, cap, rfl, _, hb⟩
      have HB2 : Hid (Below w.heap.size w w2) := HB1.out.trans (hb.mono HB1.out.size)
      clear hb HB1
      go_wp2_with fail
      go_ret2
      exact ⟨by rw [← HO.out]; rfl, HB2.out⟩
    · have HR := Lib.hid hr
      rw [(rm_no fun h => hr h.2).2.2, (rm_no fun h => hr h.2).2.1]
      clear hr hV
      go_enter Try.func33, Try.ntmps33
      go_wp2_with ((with_reducible show wpList _ _ _ (Oper.mk _ (Op.load 37 _) _ _ _ _ :: _) _ _); refine loadB (K1) rfl rfl rfl ?_)
      refine (l2Board_yes _ _ HV.out).mono ?_
      rintro e w1 ⟨rfl, hb⟩
      have HB1 : Hid (Below w.heap.size w w1) := HB.out.trans (hb.mono HB.out.size)
      clear hb HB K1
      go_wp2_with fail
      refine (l10Rule_no r _ HR.out).mono ?_
      rintro e w9 ⟨rfl, rfl⟩
      go_wp2_with fail
      go_ret2
      exact ⟨rfl, HB1.out⟩
  · have HV := Lib.hid hV
    rw [(rm_no fun h => hV h.1).2.2, (rm_no fun h => hV h.1).2.1]
    clear hV
    go_enter Try.func33, Try.ntmps33
    go_wp2_with ((with_reducible show wpList _ _ _ (Oper.mk _ (Op.load 37 _) _ _ _ _ :: _) _ _); refine loadB (K1) rfl rfl rfl ?_)
    refine (l2Board_no _ _ HV.out).mono ?_
    rintro e w1 ⟨rfl, hb⟩
    have HB1 : Hid (Below w.heap.size w w1) := HB.out.trans (hb.mono HB.out.size)
    clear hb HB K1
    go_wp2_with fail
    go_ret2
    exact ⟨rfl, HB1.out⟩
set_option maxHeartbeats 1000000 in
set_option maxRecDepth 20000 in
theorem implMovesBy_any (f : Nat → Int) (r : Int) (w : World) :
    Calls Try.prog 29 #[.agg (mk 16 f), .int .i64 r] w fun e w' => ∃ g cap, e = .returned (.tuple #[.slice (some ⟨g, 0, none⟩) (rMR f r).length cap, .bool (rbO f r)]) ∧
      OwnsInts w' w.heap.size (.slice (some ⟨g, 0, none⟩) (rMR f r).length cap) (rMR f r) ∧ Below w.heap.size w w' := by
  obtain ⟨i0, hi, hz0, hz1, hz2⟩ := info_parts infoInt
  have K1 := Blk.new w 16 f 37
  have HB := Lib.hid ((Below.refl w.heap.size w).alloc (Nat.le_refl _) (.cells (mk 16 f) 37))
  by_cases hr : RlOk r
  · have HR := Lib.hid hr
    have HX := Lib.hid (merges_any r hr)
    have CL : Hid (∀ W, Calls Try.prog 51 #[.int .i64 r] W fun e w' => e = .returned (.tuple #[.iface 112 (.agg #[inR r]), .bool true]) ∧ Below W.heap.size W w') := fun W => lawOf_at r W hr
    generalize inR r = x at *
    by_cases hV : Vd f
    · have HV := Lib.hid hV
      rw [(rm_yes ⟨hV, hr⟩).1, (rm_yes ⟨hV, hr⟩).2.1]
      clear hr hV
      go_enter Try.func29, Try.ntmps29
      go_wp2_with fail
      refine (CL.out _).mono ?_
      rintro e w9 ⟨rfl, hb⟩
      have K1 := K1.below hb K1.lt
      have HB : Hid (Below w.heap.size w w9) := HB.out.trans (hb.mono HB.out.size)
      clear hb
      go_wp2_with (first | ((with_reducible show wpList _ _ _ (Oper.mk _ (Op.load 37 _) _ _ _ _ :: _) _ _); refine loadB (K1) rfl rfl rfl ?_) | ((with_reducible show wpList _ _ _ (Oper.mk _ (Op.load 37 _) _ _ _ (some _) :: _) _ _); refine loadgB (K1) rfl rfl rfl ?_))
      refine (implBoard_yes _ _ HV.out).mono ?_
      rintro e w1 ⟨rfl, hb⟩
      have HLT : Hid (w.heap.size < w1.heap.size) := (K1.below hb K1.lt).lt
      have K1 := (K1.below hb K1.lt).alloc (.cells #[] 3)
      have HB1 : Hid (Below w.heap.size w w1) := HB.out.trans (hb.mono HB.out.size)
      have HB2 : Hid (Below w.heap.size w (w1.alloc (.cells #[] 3))) := HB1.out.alloc HB1.out.size _
      have HO : OwnsInts (w1.alloc (.cells #[] 3)) (w.heap.size + 1) (.slice (some ⟨w1.heap.size, 0, none⟩) 0 0) [] :=
        World.ownsRow_made (base := w.heap.size + 1) (e := 3) (size := 1) w1 #[] 0 HLT.out (by decide) rfl
      clear hb HB HB1
      go_wp2_with fail
      generalize w1.alloc (.cells #[] 3) = w8 at *
      go_loopg [8, 24] 4 (fun g s8 s24 wr => ∃ (d : Nat) (v : Value), d + g = 4 ∧ s24 = .int .i64 d ∧ v = s8 ∧ (∃ gg cap, v = .slice (some ⟨gg, 0, none⟩) (rML (mgF r) f d).length cap) ∧ OwnsInts wr (w.heap.size + 1) v (rML (mgF r) f d) ∧ Blk wr w.heap.size 16 f 37 ∧ Hid (Below w.heap.size w wr))
      case atStart => exact ⟨0, _, by omega, rfl, rfl, ⟨_, _, rfl⟩, HO, K1, HB2⟩
      case round =>
        clear HO K1 HB2
        obtain ⟨d, v, hdg, rfl, rfl, hv, ho, K1, hb⟩ := hrel
        cases gk with
        | zero =>
          have hd : ¬ ((d : Int) < 4) := by omega
          obtain rfl : d = 4 := by omega
          clear hdg hd
          obtain ⟨gg, cap, rfl⟩ := hv
          go_wp2_with fail
          go_ret2
          exact ⟨gg, cap, rfl, ownsRow_wide ho (by omega), hb.out⟩
        | succ g =>
          have hd4 : (d : Int) < 4 := by omega
          have HVv := Lib.hid hv
          have HOo := Lib.hid ho
          clear ho hv
          go_wp2_with ((with_reducible show wpList _ _ _ (Oper.mk _ (Op.load 37 _) _ _ _ _ :: _) _ _); refine loadB (K1) rfl rfl rfl ?_)
          refine (isMoveBy_any x (mgF r) HX.out f d _ HV.out (by omega)).mono ?_
          rintro e x1 ⟨rfl, BX⟩
          have K1 := K1.below BX K1.lt
          have ho0 : x1.ownsRow (w.heap.size + 1) 3 1 v (rML (mgF r) f d).length ((rML (mgF r) f d).map (Value.int .i64)) := owns_below HOo.out BX
          have HB3 : Hid (Below w.heap.size w x1) := hb.out.trans (BX.mono hb.out.size)
          have eMV : rMv (mgF r) f d = (!sameB (rB (mgF r) f d) f) := rfl
          rw [eMV]
          clear eMV
          have hn := rML_le (mgF r) f d
          have hsz := HB3.out.size
          have hlt := K1.lt
          clear hb BX HOo
          by_cases hm : rMv (mgF r) f d = true
          · have Y := Lib.hid (rML_yes hm)
            have hn4 : (rML (mgF r) f d).length ≤ 4 := by omega
            have hm2 : (!sameB (rB (mgF r) f d) f) = true := hm
            rw [hm2]
            clear hm hm2
            go_wp2_with (at_builtin; refine wpList_append_own _ rfl _ _ 43 rfl (w.heap.size + 1) 3 i0 (.int .i64 0) 1 8 Try.underlying43 hi hz0 hz1 hz2 rfl (by decide) _ _ _ rfl (ho0.alloc _) ⟨x1.heap.size, 0, none⟩ 1 1 [.int .i64 d] rfl rfl ?c1 ?c2 ?c3 ?c4 ?c5 ?_)
            case c1 => exact cell_one_new _ _ _
            case c2 => simp [Value.oneCell']
            case c3 => unfold maxLen; omega
            case c4 => omega
            case c5 => simp; omega
            intro v' w2 hown' hgrow' _
            obtain ⟨gg, cap, hv'⟩ := ownsRow_succ hown'
            have HV' : Hid (∃ gg cap, v' = .slice (some ⟨gg, 0, none⟩) ((rML (mgF r) f d).length + 1) cap) := ⟨gg, cap, hv'⟩
            have HB4 : Hid (Below w.heap.size w w2) := ((HB3.out).alloc HB3.out.size _).grown hgrow' (by simp; omega) (fun j hj => by have := (ho0.lt j hj).1; omega)
            have K2 := (K1.alloc (.cells #[.int .i64 d] 3)).grown hgrow' (fun e => by have := (ho0.lt _ e.symm).1; omega)
            have HO : Hid (OwnsInts w2 (w.heap.size + 1) v' (rML (mgF r) f d ++ [(d : Int)])) := by
              show OwnsInts _ _ _ _
              unfold OwnsInts
              rw [List.map_append, List.length_append]
              exact hown'
            clear hown' hgrow' ho0 hv' K1
            go_wp2_with fail
            go_roundg g
            case rel => exact ⟨d + 1, _, by omega, by go_num, rfl, by rw [Y.out, List.length_append]; exact HV'.out, by rw [Y.out]; exact HO.out, K2, HB4⟩
            case measure => omega
          · have hm : rMv (mgF r) f d = false := by simpa using hm
            have Y := Lib.hid (rML_no hm)
            have hm2 : (!sameB (rB (mgF r) f d) f) = false := hm
            rw [hm2]
            clear hm hm2
            go_wp2_with fail
            go_roundg g
            case rel => exact ⟨d + 1, _, by omega, by go_num, rfl, by rw [Y.out]; exact HVv.out, by rw [Y.out]; exact ho0, K1, HB3⟩
            case measure => omega
    · have HV := Lib.hid hV
      rw [(rm_no fun h => hV h.1).1, (rm_no fun h => hV h.1).2.1]
      clear hr hV
      go_enter Try.func29, Try.ntmps29
      go_wp2_with fail
      refine (CL.out _).mono ?_
      rintro e w9 ⟨rfl, hb⟩
      have K1 := K1.below hb K1.lt
      have HB : Hid (Below w.heap.size w w9) := HB.out.trans (hb.mono HB.out.size)
      clear hb
      go_wp2_with (first | ((with_reducible show wpList _ _ _ (Oper.mk _ (Op.load 37 _) _ _ _ _ :: _) _ _); refine loadB (K1) rfl rfl rfl ?_) | ((with_reducible show wpList _ _ _ (Oper.mk _ (Op.load 37 _) _ _ _ (some _) :: _) _ _); refine loadgB (K1) rfl rfl rfl ?_))
      refine (implBoard_no _ _ HV.out).mono ?_
      rintro e w1 ⟨rfl, hb⟩
      have HB1 : Hid (Below w.heap.size w w1) := HB.out.trans (hb.mono HB.out.size)
      clear hb HB K1
      have HO := Lib.hid (World.ownsRow_made (base := w.heap.size) (e := 3) (size := 1) w1 #[] 0 HB1.out.size (by decide) rfl)
      have HB2 : Hid (Below w.heap.size w (w1.alloc (.cells #[] 3))) := HB1.out.alloc HB1.out.size _
      go_wp2_with fail
      go_ret2
      exact ⟨_, _, rfl, HO.out, HB2.out⟩
  · have HR := Lib.hid hr
    rw [(rm_no fun h => hr h.2).1, (rm_no fun h => hr h.2).2.1]
    clear hr
    go_enter Try.func29, Try.ntmps29
    go_wp2_with fail
    refine (lawOf_no r _ HR.out).mono ?_
    rintro e w1 ⟨rfl, hb⟩
    have HB1 : Hid (Below w.heap.size w w1) := HB.out.trans (hb.mono HB.out.size)
    clear hb HB K1
    have HO := Lib.hid (World.ownsRow_made (base := w.heap.size) (e := 3) (size := 1) w1 #[] 0 HB1.out.size (by decide) rfl)
    have HB2 : Hid (Below w.heap.size w (w1.alloc (.cells #[] 3))) := HB1.out.alloc HB1.out.size _
    go_wp2_with fail
    go_ret2
    exact ⟨_, _, rfl, HO.out, HB2.out⟩
set_option maxHeartbeats 1000000 in
theorem implOverBy_any (f : Nat → Int) (r : Int) (w : World) :
    Calls Try.prog 34 #[.agg (mk 16 f), .int .i64 r] w fun e w' => e = .returned (.tuple #[.bool (rOR f r), .bool (rbO f r)]) ∧ Below w.heap.size w w' := by
  have K1 := Blk.new w 16 f 37
  have HB := Lib.hid ((Below.refl w.heap.size w).alloc (Nat.le_refl _) (.cells (mk 16 f) 37))
  by_cases hV : RbOk f r
  · have HO : Hid ((((rML (mgF r) f 4).length : Int) == 0) = decide ((rML (mgF r) f 4).length = 0)) := by
      show _ = _
      by_cases h0 : (rML (mgF r) f 4).length = 0
      · rw [h0]; rfl
      · simp [h0]
    have HM := Lib.hid (rm_yes hV)
    rw [(rm_yes hV).2.1, (rm_yes hV).2.2]
    clear hV
    go_enter Try.func34, Try.ntmps34
    go_wp2_with ((with_reducible show wpList _ _ _ (Oper.mk _ (Op.load 37 _) _ _ _ _ :: _) _ _); refine loadB (K1) rfl rfl rfl ?_)
    refine (implMovesBy_any f r _).mono ?_
    rintro e w1 ⟨g, cap, rfl, _, hb⟩
    have HB1 : Hid (Below w.heap.size w w1) := HB.out.trans (hb.mono HB.out.size)
    clear hb HB K1
    rw [HM.out.1, HM.out.2.1]
    go_wp2_with fail
    go_ret2
    exact ⟨by rw [← HO.out]; rfl, HB1.out⟩
  · have HM := Lib.hid (rm_no hV)
    rw [(rm_no hV).2.1, (rm_no hV).2.2]
    clear hV
    go_enter Try.func34, Try.ntmps34
    go_wp2_with ((with_reducible show wpList _ _ _ (Oper.mk _ (Op.load 37 _) _ _ _ _ :: _) _ _); refine loadB (K1) rfl rfl rfl ?_)
    refine (implMovesBy_any f r _).mono ?_
    rintro e w1 ⟨g, cap, rfl, _, hb⟩
    have HB1 : Hid (Below w.heap.size w w1) := HB.out.trans (hb.mono HB.out.size)
    clear hb HB K1
    rw [HM.out.1, HM.out.2.1]
    go_wp2_with fail
    go_ret2
    exact ⟨rfl, HB1.out⟩
end Go.Proofs.Ytblcojacmjbjcaa
