/-
  The contracts of the cells of a snake in the program: slices.Reverse over four cells, formCell, snakePath and SnakePath.
-/
import Derived.Test.YtmcmpedmgibmkabSpecSnake
import Derived.Test.YtmcmpedmgibmkabImplForms
import Derived.Test.YtmcmpedmgibmkabImplPut
import Derived.Test.YtmcmpedmgibmkabHighest
import Derived.Deep.RegionHeld3
namespace Go.Proofs.Ytmcmpedmgibmkab
open Go.RowKit Plain
attribute [local go_sem] store_new
set_option linter.unusedVariables false
set_option linter.unusedSimpArgs false
theorem wp_allocC2 {w : World} {o : Oper} {a : Act} {K : Act → World → Prop} {Q : Exit → Act → World → Prop} (ho : o.op = .alloc 22)
    (h : K (a.put o.dst (.pointer (some ⟨w.heap.size, 0, none⟩))) (w.alloc (.cells (mk 2 fun _ => 0) 22))) : o.wp Try.prog a w K Q := by
  have z2 := zero2
  unfold Oper.wp
  go_simp
  exact h
theorem wp_ldC2 {o : Oper} {a : Act} {w : World} {K : Act → World → Prop} {Q : Exit → Act → World → Prop} {x : Operand} {b n off : Nat} {f : Nat → Int} {t : TypeId} (hg : Blk w b n f t) (hm : off + 2 ≤ n) (ho : o.op = .load 22 x) (hx : a.eval x = .pointer (some ⟨b, off, none⟩))
    (h : K (a.put o.dst (.agg (mk 2 fun i => f (off + i)))) w) : o.wp Try.prog a w K Q :=
  wp_load_mid 22 x ho b off hx _ _ (hg.range off 2 hm) Try.underlying22 rfl (by rw [mk_len]; exact sizeC) (by rw [Array.toArray_toList]; exact h)
theorem wp_stC2 {o : Oper} {a : Act} {w : World} {K : Act → World → Prop} {Q : Exit → Act → World → Prop} {x y : Operand} {b n off : Nat} {f g : Nat → Int} {t : TypeId} (hg : Blk w b n f t) (hm : off + 2 ≤ n) (ho : o.op = .store 22 x y) (hx : a.eval x = .pointer (some ⟨b, off, none⟩)) (hy : a.eval y = .agg (mk 2 g))
    (h : K (a.put o.dst undef) (w.setRow b (mk n (patch f off 2 g)))) : o.wp Try.prog a w K Q :=
  wp_store_mid 22 x y ho b off _ hx hy (by rw [mk_size]; exact hg.there off 2 hm) (by rw [mk_size]; exact sizeC) (mk_one g) (by rw [setCells_row hg hm]; exact h)
theorem putOne (R C : Nat) (hR : R < 4) (hC : C < 4) (w : World) :
    Calls Try.prog 61 #[.agg (mk 16 fun _ => 0), .agg (mk 2 (two (R : Int) (C : Int))), .int .i64 1] w fun e w' => e = .returned (.tuple #[.agg (mk 16 (upd (fun _ => 0) (R * 4 + C) 1)), .bool true]) ∧ Below w.heap.size w w' := by
  have h := implPut_ok (fun _ => 0) (two (R : Int) (C : Int)) 1 w (fun i _ => by simp) (by simp [CellIn, two]; omega) (by omega) (by omega) rfl
  have hp : placeAt (two (R : Int) (C : Int)) = R * 4 + C := by simp [placeAt, two]
  have hO : PutOk (fun _ => 0) (two (R : Int) (C : Int)) 1 := ⟨fun i _ => by simp, by simp [CellIn, two]; omega, ⟨by omega, by omega⟩, rfl⟩
  rw [(put_yes hO).1, (put_yes hO).2, hp] at h
  exact h
theorem one_vd (p : Nat) : Vd (upd (fun _ => 0) p 1) := fun i _ => by
  unfold upd
  split
  · omega
  · show (0 : Int) ≤ 0 ∧ (0 : Int) ≤ 17
    omega
theorem highOne (p k : Nat) (w : World) : Calls Try.prog 62 #[.agg (mk 16 (formF (upd (fun _ => 0) p 1) k))] w fun e w' => e = .returned (.tuple #[.int .i64 (hiT (formF (upd (fun _ => 0) p 1) k)), .agg (mk 2 (cellF (fcP p k))), .bool (hiO (formF (upd (fun _ => 0) p 1) k))]) ∧ Below w.heap.size w w' := by
  have h := implHigh_any (formF (upd (fun _ => 0) p 1) k) w
  have hV : Vd (formF (upd (fun _ => 0) p 1) k) := form_vd (one_vd p) k
  rw [(hi_yes hV).2.1] at h
  exact h
set_option maxHeartbeats 4000000 in
set_option maxRecDepth 20000 in
theorem formCell0_any (R C : Nat) (hR : R < 4) (hC : C < 4) (w : World) :
    Calls Try.prog 48 #[.agg (mk 2 (two (R : Int) (C : Int))), .int .i64 0] w fun e w' => e = .returned (.agg (mk 2 (cellF (fcP (R * 4 + C) 0)))) ∧ Below w.heap.size w w' := by
  have z16 := zero16
  have z2 := zero2
  have HP := Lib.hid (fun w => putOne R C hR hC w)
  have HH := Lib.hid (fun w => highOne (R * 4 + C) 0 w)
  clear hR hC
  have K2 := (Blk.new w 2 (two (R : Int) (C : Int)) 22).alloc (.cells (mk 2 fun _ => 0) 22)
  have K4 := Blk.new (w.alloc (.cells (mk 2 (two (R : Int) (C : Int))) 22)) 2 (fun _ => 0) 22
  simp only [World.size_alloc] at K4
  have HB := Lib.hid (((Below.refl w.heap.size w).alloc (Nat.le_refl _) (.cells (mk 2 (two (R : Int) (C : Int))) 22)).alloc (by simp) (.cells (mk 2 fun _ => 0) 22))
  generalize hM : upd (fun _ => 0) (R * 4 + C) 1 = M at *
  generalize hiT (formF M 0) = TT at *
  generalize hiO (formF M 0) = OO at *
  generalize cellF (fcP (R * 4 + C) 0) = CC at *
  have HPT : Hid (mk 2 (patch (fun _ => 0) 0 2 CC) = mk 2 CC) := mk_congr fun j hj => by unfold patch; rw [if_pos (by omega), Nat.sub_zero]
  clear hM
  go_enter Try.func48, Try.ntmps48
  go_wp2_with ((with_reducible show wpList _ _ _ (Oper.mk _ (Op.load 22 _) _ _ _ _ :: _) _ _); refine loadC (K2) rfl rfl rfl ?_)
  refine (HP.out _).mono ?_
  rintro e w2 ⟨rfl, hb⟩
  have hlt := K4.lt
  have K4 := K4.below hb K4.lt
  have H5 : Hid (w.heap.size + 1 < w2.heap.size) := K4.lt
  have HB := HB.out.trans (hb.mono HB.out.size)
  have HB : Hid (Below w.heap.size w (w2.alloc (.cells (mk 16 M) 35))) := HB.alloc HB.size _
  have K4 := K4.alloc (.cells (mk 16 M) 35)
  have K5 := Blk.new w2 16 M 35
  clear hb HP K2 hlt
  go_wp2_with fail
  generalize w2.alloc (.cells (mk 16 M) 35) = w3 at *
  generalize w2.heap.size = b5 at *
  refine wp_region_held_drew (S := fun W => Blk W b5 16 M 35) (by kernel_rfl) (K5.drew) (fun hHeld => ?_)
  have K4 := K4.drew
  have K5 : Blk w3.drew b5 16 M 35 := K5.drew
  have HB : Hid (Below w.heap.size w w3.drew) := HB.out.drew
  generalize w3.drew = y0 at *
  refine wpAnyH_take (i := 1) (oi := { dst := some 18, op := _, type := _, pos := _, after := _, guard := _ }) (v := .int .i64 0) rfl (by kernel_rfl) (by kernel_rfl) (by kernel_rfl) (fun _ _ _ h => h) (Or.inl ⟨by rfl, by intro w hSw; clear hSw; go_simp; (try with_reducible rfl)⟩) (by assumption) ?_
  try simp only [Act.put, List.setIfInBounds_toArray, List.set_cons_zero, List.set_cons_succ]
  refine wpAnyH_take (i := 3) (oi := { dst := some 20, op := _, type := _, pos := _, after := _, guard := _ }) (v := .agg (mk 16 M)) rfl (by kernel_rfl) (by kernel_rfl) (by kernel_rfl) (fun _ _ _ h => h) (Or.inl ⟨by rfl, fun _ q => execB q rfl rfl⟩) (by assumption) ?_
  try simp only [Act.put, List.setIfInBounds_toArray, List.set_cons_zero, List.set_cons_succ]
  refine wpAnyH_ready (rs := [0, 10]) (by kernel_rfl) (by simp) ?_
  refine AllReadyH.cons rfl (fun K hK => ?_) ?_
  · go_simp
    refine (forms_any _).mono ?_
    rintro e y1 ⟨rfl, hb⟩
    have K4 := K4.below hb K4.lt
    have K5 := K5.below hb K5.lt
    have HB : Hid (Below w.heap.size w y1) := HB.out.trans (hb.mono HB.out.size)
    clear hb hHeld
    go_wp2_with fail
    refine hK.out _ _ K5 (fun hHeld => ?_)
    clear hK K
    try simp only [Act.put, List.setIfInBounds_toArray, List.set_cons_zero, List.set_cons_succ]
    refine wpAnyH_take (i := 2) (oi := { dst := some 19, op := _, type := _, pos := _, after := _, guard := _ }) (v := .func (.func 67) #[] #[]) rfl (by kernel_rfl) (by kernel_rfl) (by kernel_rfl) (fun _ _ _ h => h) (Or.inl ⟨by rfl, by intro W hSw; clear hSw; have iF := idxF0 W; go_simp⟩) (by assumption) ?_
    try simp only [Act.put, List.setIfInBounds_toArray, List.set_cons_zero, List.set_cons_succ]
    refine wpAnyH_ready (rs := [4, 10]) (by kernel_rfl) (by simp) ?_
    refine AllReadyH.cons rfl (fun K hK => ?_) ?_
    · go_simp
      refine (form0_any M _).mono ?_
      rintro e y2 ⟨rfl, hb⟩
      have K4 := K4.below hb K4.lt
      have K5 := K5.below hb K5.lt
      have HB : Hid (Below w.heap.size w y2) := HB.out.trans (hb.mono HB.out.size)
      clear hb hHeld
      go_wp2_with fail
      refine hK.out _ _ K5 (fun hHeld => ?_)
      clear hK K
      try simp only [Act.put, List.setIfInBounds_toArray, List.set_cons_zero, List.set_cons_succ]
      refine wpAnyH_ready (rs := [5, 10]) (by kernel_rfl) (by simp) ?_
      refine AllReadyH.cons rfl (fun K hK => ?_) ?_
      · go_simp
        refine (HH.out _).mono ?_
        rintro e y3 ⟨rfl, hb⟩
        have K4 := K4.below hb K4.lt
        have K5 := K5.below hb K5.lt
        have HB : Hid (Below w.heap.size w y3) := HB.out.trans (hb.mono HB.out.size)
        clear hb hHeld
        go_wp2_with fail
        refine hK.out _ _ K5 (fun hHeld => ?_)
        clear hK K
        try simp only [Act.put, List.setIfInBounds_toArray, List.set_cons_zero, List.set_cons_succ]
        refine wpAnyH_take (i := 6) (oi := { dst := some 16, op := _, type := _, pos := _, after := _, guard := _ }) (v := .tuple #[.int .i64 TT, .agg (mk 2 CC), .bool OO]) rfl (by kernel_rfl) (by kernel_rfl) (by kernel_rfl) (fun _ _ _ h => h) (Or.inl ⟨by rfl, by intro w hSw; clear hSw; go_simp; (try with_reducible rfl)⟩) (by assumption) ?_
        try simp only [Act.put, List.setIfInBounds_toArray, List.set_cons_zero, List.set_cons_succ]
        refine wpAnyH_take (i := 7) (oi := { dst := some 23, op := _, type := _, pos := _, after := _, guard := _ }) (v := .int .i64 TT) rfl (by kernel_rfl) (by kernel_rfl) (by kernel_rfl) (fun _ _ _ h => h) (Or.inl ⟨by rfl, by intro w hSw; clear hSw; go_simp; (try with_reducible rfl)⟩) (by assumption) ?_
        try simp only [Act.put, List.setIfInBounds_toArray, List.set_cons_zero, List.set_cons_succ]
        refine wpAnyH_take (i := 8) (oi := { dst := some 24, op := _, type := _, pos := _, after := _, guard := _ }) (v := .agg (mk 2 CC)) rfl (by kernel_rfl) (by kernel_rfl) (by kernel_rfl) (fun _ _ _ h => h) (Or.inl ⟨by rfl, by intro w hSw; clear hSw; go_simp; (try with_reducible rfl)⟩) (by assumption) ?_
        try simp only [Act.put, List.setIfInBounds_toArray, List.set_cons_zero, List.set_cons_succ]
        refine wpAnyH_take (i := 9) (oi := { dst := some 25, op := _, type := _, pos := _, after := _, guard := _ }) (v := .bool OO) rfl (by kernel_rfl) (by kernel_rfl) (by kernel_rfl) (fun _ _ _ h => h) (Or.inl ⟨by rfl, by intro w hSw; clear hSw; go_simp; (try with_reducible rfl)⟩) (by assumption) ?_
        try simp only [Act.put, List.setIfInBounds_toArray, List.set_cons_zero, List.set_cons_succ]
        refine wpAnyH_ready (rs := [10]) (by kernel_rfl) (by simp) ?_
        refine AllReadyH.cons rfl (fun K hK => ?_) AllReadyH.nil
        rw [if_pos (by rfl)]
        refine wp_allocC2 rfl ?_
        have K8 := Blk.new y3 2 (fun _ => 0) 22
        have H8 : Hid (w.heap.size + 1 < y3.heap.size ∧ b5 < y3.heap.size) := ⟨K4.lt, K5.lt⟩
        have K4 := K4.alloc (.cells (mk 2 fun _ => 0) 22)
        have K5 := K5.alloc (.cells (mk 2 fun _ => 0) 22)
        have HB : Hid (Below w.heap.size w (y3.alloc (.cells (mk 2 fun _ => 0) 22))) := HB.out.alloc HB.out.size _
        clear hHeld
        generalize y3.alloc (.cells (mk 2 fun _ => 0) 22) = y4 at *
        generalize y3.heap.size = b8 at *
        refine hK.out _ _ K5 (fun hHeld => ?_)
        clear hK K
        try simp only [Act.put, List.setIfInBounds_toArray, List.set_cons_zero, List.set_cons_succ]
        refine wpAnyH_take (i := 11) (oi := { dst := some 7, op := _, type := _, pos := _, after := _, guard := _ }) (v := .int .i64 TT) rfl (by kernel_rfl) (by kernel_rfl) (by kernel_rfl) (fun _ _ _ h => h) (Or.inl ⟨by rfl, by intro w hSw; clear hSw; go_simp; (try with_reducible rfl)⟩) (by assumption) ?_
        try simp only [Act.put, List.setIfInBounds_toArray, List.set_cons_zero, List.set_cons_succ]
        refine wpAnyH_ready (rs := [12]) (by kernel_rfl) (by simp) ?_
        refine AllReadyH.cons rfl (fun K hK => ?_) AllReadyH.nil
        rw [if_pos (by rfl)]
        refine wp_stC2 (off := 0) (g := CC) K8 (by omega) rfl rfl rfl ?_
        rw [HPT.out]
        have K4 := K4.rowOther b8 (mk 2 CC) (by have := H8.out; omega)
        have K5 := K5.rowOther b8 (mk 2 CC) (by have := H8.out; omega)
        have HB : Hid (Below w.heap.size w (y4.setRow b8 (mk 2 CC))) := below_setRow HB.out (by have := H8.out; omega) _
        have K8 := K8.row 2 CC
        generalize y4.setRow b8 (mk 2 CC) = z1 at *
        clear hHeld
        refine hK.out _ _ K5 (fun hHeld => ?_)
        clear hK K
        try simp only [Act.put, List.setIfInBounds_toArray, List.set_cons_zero, List.set_cons_succ]
        refine wpAnyH_take (i := 13) (oi := { dst := some 9, op := _, type := _, pos := _, after := _, guard := _ }) (v := .bool OO) rfl (by kernel_rfl) (by kernel_rfl) (by kernel_rfl) (fun _ _ _ h => h) (Or.inl ⟨by rfl, by intro w hSw; clear hSw; go_simp; (try with_reducible rfl)⟩) (by assumption) ?_
        try simp only [Act.put, List.setIfInBounds_toArray, List.set_cons_zero, List.set_cons_succ]
        refine wpAnyH_done (by kernel_rfl) ?_ _
        clear hHeld
        go_wp2_with (first | ((with_reducible show wpList _ _ _ (Oper.mk _ (Op.load 22 _) _ _ _ _ :: _) _ _); refine loadC (K8) rfl rfl rfl ?_) | ((with_reducible show wpList _ _ _ (Oper.mk _ (Op.store 22 _ _) _ _ _ _ :: _) _ _); refine storeC (K4) rfl rfl rfl rfl ?_))
        try simp only [Act.put, List.setIfInBounds_toArray, List.set_cons_zero, List.set_cons_succ]
        try simp only [Exit.inBlock, Exit.then]
        refine retcC (p := 4) (t := 22) (b := w.heap.size + 1) (f := CC) ?_ ?_ ?_ ?_ ?_
        · exact K4.row 2 CC
        · rfl
        · rfl
        · rfl
        · exact ⟨rfl, below_setRow HB.out (by omega) (mk 2 CC)⟩
      refine AllReadyH.cons rfl (fun K hK => ?_) AllReadyH.nil
      rw [if_pos (by rfl)]
      refine wp_allocC2 rfl ?_
      have K8 := Blk.new y2 2 (fun _ => 0) 22
      have H8 : Hid (w.heap.size + 1 < y2.heap.size ∧ b5 < y2.heap.size) := ⟨K4.lt, K5.lt⟩
      have K4 := K4.alloc (.cells (mk 2 fun _ => 0) 22)
      have K5 := K5.alloc (.cells (mk 2 fun _ => 0) 22)
      have HB : Hid (Below w.heap.size w (y2.alloc (.cells (mk 2 fun _ => 0) 22))) := HB.out.alloc HB.out.size _
      clear hHeld
      generalize y2.alloc (.cells (mk 2 fun _ => 0) 22) = y3 at *
      generalize y2.heap.size = b8 at *
      refine hK.out _ _ K5 (fun hHeld => ?_)
      clear hK K
      try simp only [Act.put, List.setIfInBounds_toArray, List.set_cons_zero, List.set_cons_succ]
      refine wpAnyH_ready (rs := [5]) (by kernel_rfl) (by simp) ?_
      refine AllReadyH.cons rfl (fun K hK => ?_) AllReadyH.nil
      go_simp
      refine (HH.out _).mono ?_
      rintro e y4 ⟨rfl, hb⟩
      have K4 := K4.below hb K4.lt
      have K5 := K5.below hb K5.lt
      have K8 := K8.below hb K8.lt
      have HB : Hid (Below w.heap.size w y4) := HB.out.trans (hb.mono HB.out.size)
      clear hb hHeld
      go_wp2_with fail
      refine hK.out _ _ K5 (fun hHeld => ?_)
      clear hK K
      try simp only [Act.put, List.setIfInBounds_toArray, List.set_cons_zero, List.set_cons_succ]
      refine wpAnyH_take (i := 6) (oi := { dst := some 16, op := _, type := _, pos := _, after := _, guard := _ }) (v := .tuple #[.int .i64 TT, .agg (mk 2 CC), .bool OO]) rfl (by kernel_rfl) (by kernel_rfl) (by kernel_rfl) (fun _ _ _ h => h) (Or.inl ⟨by rfl, by intro w hSw; clear hSw; go_simp; (try with_reducible rfl)⟩) (by assumption) ?_
      try simp only [Act.put, List.setIfInBounds_toArray, List.set_cons_zero, List.set_cons_succ]
      refine wpAnyH_take (i := 7) (oi := { dst := some 23, op := _, type := _, pos := _, after := _, guard := _ }) (v := .int .i64 TT) rfl (by kernel_rfl) (by kernel_rfl) (by kernel_rfl) (fun _ _ _ h => h) (Or.inl ⟨by rfl, by intro w hSw; clear hSw; go_simp; (try with_reducible rfl)⟩) (by assumption) ?_
      try simp only [Act.put, List.setIfInBounds_toArray, List.set_cons_zero, List.set_cons_succ]
      refine wpAnyH_take (i := 8) (oi := { dst := some 24, op := _, type := _, pos := _, after := _, guard := _ }) (v := .agg (mk 2 CC)) rfl (by kernel_rfl) (by kernel_rfl) (by kernel_rfl) (fun _ _ _ h => h) (Or.inl ⟨by rfl, by intro w hSw; clear hSw; go_simp; (try with_reducible rfl)⟩) (by assumption) ?_
      try simp only [Act.put, List.setIfInBounds_toArray, List.set_cons_zero, List.set_cons_succ]
      refine wpAnyH_take (i := 9) (oi := { dst := some 25, op := _, type := _, pos := _, after := _, guard := _ }) (v := .bool OO) rfl (by kernel_rfl) (by kernel_rfl) (by kernel_rfl) (fun _ _ _ h => h) (Or.inl ⟨by rfl, by intro w hSw; clear hSw; go_simp; (try with_reducible rfl)⟩) (by assumption) ?_
      try simp only [Act.put, List.setIfInBounds_toArray, List.set_cons_zero, List.set_cons_succ]
      refine wpAnyH_take (i := 11) (oi := { dst := some 7, op := _, type := _, pos := _, after := _, guard := _ }) (v := .int .i64 TT) rfl (by kernel_rfl) (by kernel_rfl) (by kernel_rfl) (fun _ _ _ h => h) (Or.inl ⟨by rfl, by intro w hSw; clear hSw; go_simp; (try with_reducible rfl)⟩) (by assumption) ?_
      try simp only [Act.put, List.setIfInBounds_toArray, List.set_cons_zero, List.set_cons_succ]
      refine wpAnyH_ready (rs := [12]) (by kernel_rfl) (by simp) ?_
      refine AllReadyH.cons rfl (fun K hK => ?_) AllReadyH.nil
      rw [if_pos (by rfl)]
      refine wp_stC2 (off := 0) (g := CC) K8 (by omega) rfl rfl rfl ?_
      rw [HPT.out]
      have K4 := K4.rowOther b8 (mk 2 CC) (by have := H8.out; omega)
      have K5 := K5.rowOther b8 (mk 2 CC) (by have := H8.out; omega)
      have HB : Hid (Below w.heap.size w (y4.setRow b8 (mk 2 CC))) := below_setRow HB.out (by have := H8.out; omega) _
      have K8 := K8.row 2 CC
      generalize y4.setRow b8 (mk 2 CC) = z1 at *
      clear hHeld
      refine hK.out _ _ K5 (fun hHeld => ?_)
      clear hK K
      try simp only [Act.put, List.setIfInBounds_toArray, List.set_cons_zero, List.set_cons_succ]
      refine wpAnyH_take (i := 13) (oi := { dst := some 9, op := _, type := _, pos := _, after := _, guard := _ }) (v := .bool OO) rfl (by kernel_rfl) (by kernel_rfl) (by kernel_rfl) (fun _ _ _ h => h) (Or.inl ⟨by rfl, by intro w hSw; clear hSw; go_simp; (try with_reducible rfl)⟩) (by assumption) ?_
      try simp only [Act.put, List.setIfInBounds_toArray, List.set_cons_zero, List.set_cons_succ]
      refine wpAnyH_done (by kernel_rfl) ?_ _
      clear hHeld
      go_wp2_with (first | ((with_reducible show wpList _ _ _ (Oper.mk _ (Op.load 22 _) _ _ _ _ :: _) _ _); refine loadC (K8) rfl rfl rfl ?_) | ((with_reducible show wpList _ _ _ (Oper.mk _ (Op.store 22 _ _) _ _ _ _ :: _) _ _); refine storeC (K4) rfl rfl rfl rfl ?_))
      try simp only [Act.put, List.setIfInBounds_toArray, List.set_cons_zero, List.set_cons_succ]
      try simp only [Exit.inBlock, Exit.then]
      refine retcC (p := 4) (t := 22) (b := w.heap.size + 1) (f := CC) ?_ ?_ ?_ ?_ ?_
      · exact K4.row 2 CC
      · rfl
      · rfl
      · rfl
      · exact ⟨rfl, below_setRow HB.out (by omega) (mk 2 CC)⟩
    refine AllReadyH.cons rfl (fun K hK => ?_) AllReadyH.nil
    rw [if_pos (by rfl)]
    refine wp_allocC2 rfl ?_
    have K8 := Blk.new y1 2 (fun _ => 0) 22
    have H8 : Hid (w.heap.size + 1 < y1.heap.size ∧ b5 < y1.heap.size) := ⟨K4.lt, K5.lt⟩
    have K4 := K4.alloc (.cells (mk 2 fun _ => 0) 22)
    have K5 := K5.alloc (.cells (mk 2 fun _ => 0) 22)
    have HB : Hid (Below w.heap.size w (y1.alloc (.cells (mk 2 fun _ => 0) 22))) := HB.out.alloc HB.out.size _
    clear hHeld
    generalize y1.alloc (.cells (mk 2 fun _ => 0) 22) = y2 at *
    generalize y1.heap.size = b8 at *
    refine hK.out _ _ K5 (fun hHeld => ?_)
    clear hK K
    try simp only [Act.put, List.setIfInBounds_toArray, List.set_cons_zero, List.set_cons_succ]
    refine wpAnyH_ready (rs := [4]) (by kernel_rfl) (by simp) ?_
    refine AllReadyH.cons rfl (fun K hK => ?_) AllReadyH.nil
    go_simp
    refine (form0_any M _).mono ?_
    rintro e y3 ⟨rfl, hb⟩
    have K4 := K4.below hb K4.lt
    have K5 := K5.below hb K5.lt
    have K8 := K8.below hb K8.lt
    have HB : Hid (Below w.heap.size w y3) := HB.out.trans (hb.mono HB.out.size)
    clear hb hHeld
    go_wp2_with fail
    refine hK.out _ _ K5 (fun hHeld => ?_)
    clear hK K
    try simp only [Act.put, List.setIfInBounds_toArray, List.set_cons_zero, List.set_cons_succ]
    refine wpAnyH_ready (rs := [5]) (by kernel_rfl) (by simp) ?_
    refine AllReadyH.cons rfl (fun K hK => ?_) AllReadyH.nil
    go_simp
    refine (HH.out _).mono ?_
    rintro e y4 ⟨rfl, hb⟩
    have K4 := K4.below hb K4.lt
    have K5 := K5.below hb K5.lt
    have K8 := K8.below hb K8.lt
    have HB : Hid (Below w.heap.size w y4) := HB.out.trans (hb.mono HB.out.size)
    clear hb hHeld
    go_wp2_with fail
    refine hK.out _ _ K5 (fun hHeld => ?_)
    clear hK K
    try simp only [Act.put, List.setIfInBounds_toArray, List.set_cons_zero, List.set_cons_succ]
    refine wpAnyH_take (i := 6) (oi := { dst := some 16, op := _, type := _, pos := _, after := _, guard := _ }) (v := .tuple #[.int .i64 TT, .agg (mk 2 CC), .bool OO]) rfl (by kernel_rfl) (by kernel_rfl) (by kernel_rfl) (fun _ _ _ h => h) (Or.inl ⟨by rfl, by intro w hSw; clear hSw; go_simp; (try with_reducible rfl)⟩) (by assumption) ?_
    try simp only [Act.put, List.setIfInBounds_toArray, List.set_cons_zero, List.set_cons_succ]
    refine wpAnyH_take (i := 7) (oi := { dst := some 23, op := _, type := _, pos := _, after := _, guard := _ }) (v := .int .i64 TT) rfl (by kernel_rfl) (by kernel_rfl) (by kernel_rfl) (fun _ _ _ h => h) (Or.inl ⟨by rfl, by intro w hSw; clear hSw; go_simp; (try with_reducible rfl)⟩) (by assumption) ?_
    try simp only [Act.put, List.setIfInBounds_toArray, List.set_cons_zero, List.set_cons_succ]
    refine wpAnyH_take (i := 8) (oi := { dst := some 24, op := _, type := _, pos := _, after := _, guard := _ }) (v := .agg (mk 2 CC)) rfl (by kernel_rfl) (by kernel_rfl) (by kernel_rfl) (fun _ _ _ h => h) (Or.inl ⟨by rfl, by intro w hSw; clear hSw; go_simp; (try with_reducible rfl)⟩) (by assumption) ?_
    try simp only [Act.put, List.setIfInBounds_toArray, List.set_cons_zero, List.set_cons_succ]
    refine wpAnyH_take (i := 9) (oi := { dst := some 25, op := _, type := _, pos := _, after := _, guard := _ }) (v := .bool OO) rfl (by kernel_rfl) (by kernel_rfl) (by kernel_rfl) (fun _ _ _ h => h) (Or.inl ⟨by rfl, by intro w hSw; clear hSw; go_simp; (try with_reducible rfl)⟩) (by assumption) ?_
    try simp only [Act.put, List.setIfInBounds_toArray, List.set_cons_zero, List.set_cons_succ]
    refine wpAnyH_take (i := 11) (oi := { dst := some 7, op := _, type := _, pos := _, after := _, guard := _ }) (v := .int .i64 TT) rfl (by kernel_rfl) (by kernel_rfl) (by kernel_rfl) (fun _ _ _ h => h) (Or.inl ⟨by rfl, by intro w hSw; clear hSw; go_simp; (try with_reducible rfl)⟩) (by assumption) ?_
    try simp only [Act.put, List.setIfInBounds_toArray, List.set_cons_zero, List.set_cons_succ]
    refine wpAnyH_ready (rs := [12]) (by kernel_rfl) (by simp) ?_
    refine AllReadyH.cons rfl (fun K hK => ?_) AllReadyH.nil
    rw [if_pos (by rfl)]
    refine wp_stC2 (off := 0) (g := CC) K8 (by omega) rfl rfl rfl ?_
    rw [HPT.out]
    have K4 := K4.rowOther b8 (mk 2 CC) (by have := H8.out; omega)
    have K5 := K5.rowOther b8 (mk 2 CC) (by have := H8.out; omega)
    have HB : Hid (Below w.heap.size w (y4.setRow b8 (mk 2 CC))) := below_setRow HB.out (by have := H8.out; omega) _
    have K8 := K8.row 2 CC
    generalize y4.setRow b8 (mk 2 CC) = z1 at *
    clear hHeld
    refine hK.out _ _ K5 (fun hHeld => ?_)
    clear hK K
    try simp only [Act.put, List.setIfInBounds_toArray, List.set_cons_zero, List.set_cons_succ]
    refine wpAnyH_take (i := 13) (oi := { dst := some 9, op := _, type := _, pos := _, after := _, guard := _ }) (v := .bool OO) rfl (by kernel_rfl) (by kernel_rfl) (by kernel_rfl) (fun _ _ _ h => h) (Or.inl ⟨by rfl, by intro w hSw; clear hSw; go_simp; (try with_reducible rfl)⟩) (by assumption) ?_
    try simp only [Act.put, List.setIfInBounds_toArray, List.set_cons_zero, List.set_cons_succ]
    refine wpAnyH_done (by kernel_rfl) ?_ _
    clear hHeld
    go_wp2_with (first | ((with_reducible show wpList _ _ _ (Oper.mk _ (Op.load 22 _) _ _ _ _ :: _) _ _); refine loadC (K8) rfl rfl rfl ?_) | ((with_reducible show wpList _ _ _ (Oper.mk _ (Op.store 22 _ _) _ _ _ _ :: _) _ _); refine storeC (K4) rfl rfl rfl rfl ?_))
    try simp only [Act.put, List.setIfInBounds_toArray, List.set_cons_zero, List.set_cons_succ]
    try simp only [Exit.inBlock, Exit.then]
    refine retcC (p := 4) (t := 22) (b := w.heap.size + 1) (f := CC) ?_ ?_ ?_ ?_ ?_
    · exact K4.row 2 CC
    · rfl
    · rfl
    · rfl
    · exact ⟨rfl, below_setRow HB.out (by omega) (mk 2 CC)⟩
  refine AllReadyH.cons rfl (fun K hK => ?_) AllReadyH.nil
  rw [if_pos (by rfl)]
  refine wp_allocC2 rfl ?_
  have K8 := Blk.new y0 2 (fun _ => 0) 22
  have H8 : Hid (w.heap.size + 1 < y0.heap.size ∧ b5 < y0.heap.size) := ⟨K4.lt, K5.lt⟩
  have K4 := K4.alloc (.cells (mk 2 fun _ => 0) 22)
  have K5 := K5.alloc (.cells (mk 2 fun _ => 0) 22)
  have HB : Hid (Below w.heap.size w (y0.alloc (.cells (mk 2 fun _ => 0) 22))) := HB.out.alloc HB.out.size _
  clear hHeld
  generalize y0.alloc (.cells (mk 2 fun _ => 0) 22) = y1 at *
  generalize y0.heap.size = b8 at *
  refine hK.out _ _ K5 (fun hHeld => ?_)
  clear hK K
  try simp only [Act.put, List.setIfInBounds_toArray, List.set_cons_zero, List.set_cons_succ]
  refine wpAnyH_ready (rs := [0]) (by kernel_rfl) (by simp) ?_
  refine AllReadyH.cons rfl (fun K hK => ?_) AllReadyH.nil
  go_simp
  refine (forms_any _).mono ?_
  rintro e y2 ⟨rfl, hb⟩
  have K4 := K4.below hb K4.lt
  have K5 := K5.below hb K5.lt
  have K8 := K8.below hb K8.lt
  have HB : Hid (Below w.heap.size w y2) := HB.out.trans (hb.mono HB.out.size)
  clear hb hHeld
  go_wp2_with fail
  refine hK.out _ _ K5 (fun hHeld => ?_)
  clear hK K
  try simp only [Act.put, List.setIfInBounds_toArray, List.set_cons_zero, List.set_cons_succ]
  refine wpAnyH_take (i := 2) (oi := { dst := some 19, op := _, type := _, pos := _, after := _, guard := _ }) (v := .func (.func 67) #[] #[]) rfl (by kernel_rfl) (by kernel_rfl) (by kernel_rfl) (fun _ _ _ h => h) (Or.inl ⟨by rfl, by intro W hSw; clear hSw; have iF := idxF0 W; go_simp⟩) (by assumption) ?_
  try simp only [Act.put, List.setIfInBounds_toArray, List.set_cons_zero, List.set_cons_succ]
  refine wpAnyH_ready (rs := [4]) (by kernel_rfl) (by simp) ?_
  refine AllReadyH.cons rfl (fun K hK => ?_) AllReadyH.nil
  go_simp
  refine (form0_any M _).mono ?_
  rintro e y3 ⟨rfl, hb⟩
  have K4 := K4.below hb K4.lt
  have K5 := K5.below hb K5.lt
  have K8 := K8.below hb K8.lt
  have HB : Hid (Below w.heap.size w y3) := HB.out.trans (hb.mono HB.out.size)
  clear hb hHeld
  go_wp2_with fail
  refine hK.out _ _ K5 (fun hHeld => ?_)
  clear hK K
  try simp only [Act.put, List.setIfInBounds_toArray, List.set_cons_zero, List.set_cons_succ]
  refine wpAnyH_ready (rs := [5]) (by kernel_rfl) (by simp) ?_
  refine AllReadyH.cons rfl (fun K hK => ?_) AllReadyH.nil
  go_simp
  refine (HH.out _).mono ?_
  rintro e y4 ⟨rfl, hb⟩
  have K4 := K4.below hb K4.lt
  have K5 := K5.below hb K5.lt
  have K8 := K8.below hb K8.lt
  have HB : Hid (Below w.heap.size w y4) := HB.out.trans (hb.mono HB.out.size)
  clear hb hHeld
  go_wp2_with fail
  refine hK.out _ _ K5 (fun hHeld => ?_)
  clear hK K
  try simp only [Act.put, List.setIfInBounds_toArray, List.set_cons_zero, List.set_cons_succ]
  refine wpAnyH_take (i := 6) (oi := { dst := some 16, op := _, type := _, pos := _, after := _, guard := _ }) (v := .tuple #[.int .i64 TT, .agg (mk 2 CC), .bool OO]) rfl (by kernel_rfl) (by kernel_rfl) (by kernel_rfl) (fun _ _ _ h => h) (Or.inl ⟨by rfl, by intro w hSw; clear hSw; go_simp; (try with_reducible rfl)⟩) (by assumption) ?_
  try simp only [Act.put, List.setIfInBounds_toArray, List.set_cons_zero, List.set_cons_succ]
  refine wpAnyH_take (i := 7) (oi := { dst := some 23, op := _, type := _, pos := _, after := _, guard := _ }) (v := .int .i64 TT) rfl (by kernel_rfl) (by kernel_rfl) (by kernel_rfl) (fun _ _ _ h => h) (Or.inl ⟨by rfl, by intro w hSw; clear hSw; go_simp; (try with_reducible rfl)⟩) (by assumption) ?_
  try simp only [Act.put, List.setIfInBounds_toArray, List.set_cons_zero, List.set_cons_succ]
  refine wpAnyH_take (i := 8) (oi := { dst := some 24, op := _, type := _, pos := _, after := _, guard := _ }) (v := .agg (mk 2 CC)) rfl (by kernel_rfl) (by kernel_rfl) (by kernel_rfl) (fun _ _ _ h => h) (Or.inl ⟨by rfl, by intro w hSw; clear hSw; go_simp; (try with_reducible rfl)⟩) (by assumption) ?_
  try simp only [Act.put, List.setIfInBounds_toArray, List.set_cons_zero, List.set_cons_succ]
  refine wpAnyH_take (i := 9) (oi := { dst := some 25, op := _, type := _, pos := _, after := _, guard := _ }) (v := .bool OO) rfl (by kernel_rfl) (by kernel_rfl) (by kernel_rfl) (fun _ _ _ h => h) (Or.inl ⟨by rfl, by intro w hSw; clear hSw; go_simp; (try with_reducible rfl)⟩) (by assumption) ?_
  try simp only [Act.put, List.setIfInBounds_toArray, List.set_cons_zero, List.set_cons_succ]
  refine wpAnyH_take (i := 11) (oi := { dst := some 7, op := _, type := _, pos := _, after := _, guard := _ }) (v := .int .i64 TT) rfl (by kernel_rfl) (by kernel_rfl) (by kernel_rfl) (fun _ _ _ h => h) (Or.inl ⟨by rfl, by intro w hSw; clear hSw; go_simp; (try with_reducible rfl)⟩) (by assumption) ?_
  try simp only [Act.put, List.setIfInBounds_toArray, List.set_cons_zero, List.set_cons_succ]
  refine wpAnyH_ready (rs := [12]) (by kernel_rfl) (by simp) ?_
  refine AllReadyH.cons rfl (fun K hK => ?_) AllReadyH.nil
  rw [if_pos (by rfl)]
  refine wp_stC2 (off := 0) (g := CC) K8 (by omega) rfl rfl rfl ?_
  rw [HPT.out]
  have K4 := K4.rowOther b8 (mk 2 CC) (by have := H8.out; omega)
  have K5 := K5.rowOther b8 (mk 2 CC) (by have := H8.out; omega)
  have HB : Hid (Below w.heap.size w (y4.setRow b8 (mk 2 CC))) := below_setRow HB.out (by have := H8.out; omega) _
  have K8 := K8.row 2 CC
  generalize y4.setRow b8 (mk 2 CC) = z1 at *
  clear hHeld
  refine hK.out _ _ K5 (fun hHeld => ?_)
  clear hK K
  try simp only [Act.put, List.setIfInBounds_toArray, List.set_cons_zero, List.set_cons_succ]
  refine wpAnyH_take (i := 13) (oi := { dst := some 9, op := _, type := _, pos := _, after := _, guard := _ }) (v := .bool OO) rfl (by kernel_rfl) (by kernel_rfl) (by kernel_rfl) (fun _ _ _ h => h) (Or.inl ⟨by rfl, by intro w hSw; clear hSw; go_simp; (try with_reducible rfl)⟩) (by assumption) ?_
  try simp only [Act.put, List.setIfInBounds_toArray, List.set_cons_zero, List.set_cons_succ]
  refine wpAnyH_done (by kernel_rfl) ?_ _
  clear hHeld
  go_wp2_with (first | ((with_reducible show wpList _ _ _ (Oper.mk _ (Op.load 22 _) _ _ _ _ :: _) _ _); refine loadC (K8) rfl rfl rfl ?_) | ((with_reducible show wpList _ _ _ (Oper.mk _ (Op.store 22 _ _) _ _ _ _ :: _) _ _); refine storeC (K4) rfl rfl rfl rfl ?_))
  try simp only [Act.put, List.setIfInBounds_toArray, List.set_cons_zero, List.set_cons_succ]
  try simp only [Exit.inBlock, Exit.then]
  refine retcC (p := 4) (t := 22) (b := w.heap.size + 1) (f := CC) ?_ ?_ ?_ ?_ ?_
  · exact K4.row 2 CC
  · rfl
  · rfl
  · rfl
  · exact ⟨rfl, below_setRow HB.out (by omega) (mk 2 CC)⟩
set_option maxHeartbeats 4000000 in
set_option maxRecDepth 20000 in
theorem formCell1_any (R C : Nat) (hR : R < 4) (hC : C < 4) (w : World) :
    Calls Try.prog 48 #[.agg (mk 2 (two (R : Int) (C : Int))), .int .i64 1] w fun e w' => e = .returned (.agg (mk 2 (cellF (fcP (R * 4 + C) 1)))) ∧ Below w.heap.size w w' := by
  have z16 := zero16
  have z2 := zero2
  have HP := Lib.hid (fun w => putOne R C hR hC w)
  have HH := Lib.hid (fun w => highOne (R * 4 + C) 1 w)
  clear hR hC
  have K2 := (Blk.new w 2 (two (R : Int) (C : Int)) 22).alloc (.cells (mk 2 fun _ => 0) 22)
  have K4 := Blk.new (w.alloc (.cells (mk 2 (two (R : Int) (C : Int))) 22)) 2 (fun _ => 0) 22
  simp only [World.size_alloc] at K4
  have HB := Lib.hid (((Below.refl w.heap.size w).alloc (Nat.le_refl _) (.cells (mk 2 (two (R : Int) (C : Int))) 22)).alloc (by simp) (.cells (mk 2 fun _ => 0) 22))
  generalize hM : upd (fun _ => 0) (R * 4 + C) 1 = M at *
  generalize hiT (formF M 1) = TT at *
  generalize hiO (formF M 1) = OO at *
  generalize cellF (fcP (R * 4 + C) 1) = CC at *
  have HPT : Hid (mk 2 (patch (fun _ => 0) 0 2 CC) = mk 2 CC) := mk_congr fun j hj => by unfold patch; rw [if_pos (by omega), Nat.sub_zero]
  clear hM
  go_enter Try.func48, Try.ntmps48
  go_wp2_with ((with_reducible show wpList _ _ _ (Oper.mk _ (Op.load 22 _) _ _ _ _ :: _) _ _); refine loadC (K2) rfl rfl rfl ?_)
  refine (HP.out _).mono ?_
  rintro e w2 ⟨rfl, hb⟩
  have hlt := K4.lt
  have K4 := K4.below hb K4.lt
  have H5 : Hid (w.heap.size + 1 < w2.heap.size) := K4.lt
  have HB := HB.out.trans (hb.mono HB.out.size)
  have HB : Hid (Below w.heap.size w (w2.alloc (.cells (mk 16 M) 35))) := HB.alloc HB.size _
  have K4 := K4.alloc (.cells (mk 16 M) 35)
  have K5 := Blk.new w2 16 M 35
  clear hb HP K2 hlt
  go_wp2_with fail
  generalize w2.alloc (.cells (mk 16 M) 35) = w3 at *
  generalize w2.heap.size = b5 at *
  refine wp_region_held_drew (S := fun W => Blk W b5 16 M 35) (by kernel_rfl) (K5.drew) (fun hHeld => ?_)
  have K4 := K4.drew
  have K5 : Blk w3.drew b5 16 M 35 := K5.drew
  have HB : Hid (Below w.heap.size w w3.drew) := HB.out.drew
  generalize w3.drew = y0 at *
  refine wpAnyH_take (i := 1) (oi := { dst := some 18, op := _, type := _, pos := _, after := _, guard := _ }) (v := .int .i64 1) rfl (by kernel_rfl) (by kernel_rfl) (by kernel_rfl) (fun _ _ _ h => h) (Or.inl ⟨by rfl, by intro w hSw; clear hSw; go_simp; (try with_reducible rfl)⟩) (by assumption) ?_
  try simp only [Act.put, List.setIfInBounds_toArray, List.set_cons_zero, List.set_cons_succ]
  refine wpAnyH_take (i := 3) (oi := { dst := some 20, op := _, type := _, pos := _, after := _, guard := _ }) (v := .agg (mk 16 M)) rfl (by kernel_rfl) (by kernel_rfl) (by kernel_rfl) (fun _ _ _ h => h) (Or.inl ⟨by rfl, fun _ q => execB q rfl rfl⟩) (by assumption) ?_
  try simp only [Act.put, List.setIfInBounds_toArray, List.set_cons_zero, List.set_cons_succ]
  refine wpAnyH_ready (rs := [0, 10]) (by kernel_rfl) (by simp) ?_
  refine AllReadyH.cons rfl (fun K hK => ?_) ?_
  · go_simp
    refine (forms_any _).mono ?_
    rintro e y1 ⟨rfl, hb⟩
    have K4 := K4.below hb K4.lt
    have K5 := K5.below hb K5.lt
    have HB : Hid (Below w.heap.size w y1) := HB.out.trans (hb.mono HB.out.size)
    clear hb hHeld
    go_wp2_with fail
    refine hK.out _ _ K5 (fun hHeld => ?_)
    clear hK K
    try simp only [Act.put, List.setIfInBounds_toArray, List.set_cons_zero, List.set_cons_succ]
    refine wpAnyH_take (i := 2) (oi := { dst := some 19, op := _, type := _, pos := _, after := _, guard := _ }) (v := .func (.func 68) #[] #[]) rfl (by kernel_rfl) (by kernel_rfl) (by kernel_rfl) (fun _ _ _ h => h) (Or.inl ⟨by rfl, by intro W hSw; clear hSw; have iF := idxF1 W; go_simp⟩) (by assumption) ?_
    try simp only [Act.put, List.setIfInBounds_toArray, List.set_cons_zero, List.set_cons_succ]
    refine wpAnyH_ready (rs := [4, 10]) (by kernel_rfl) (by simp) ?_
    refine AllReadyH.cons rfl (fun K hK => ?_) ?_
    · go_simp
      refine (form1_any M _).mono ?_
      rintro e y2 ⟨rfl, hb⟩
      have K4 := K4.below hb K4.lt
      have K5 := K5.below hb K5.lt
      have HB : Hid (Below w.heap.size w y2) := HB.out.trans (hb.mono HB.out.size)
      clear hb hHeld
      go_wp2_with fail
      refine hK.out _ _ K5 (fun hHeld => ?_)
      clear hK K
      try simp only [Act.put, List.setIfInBounds_toArray, List.set_cons_zero, List.set_cons_succ]
      refine wpAnyH_ready (rs := [5, 10]) (by kernel_rfl) (by simp) ?_
      refine AllReadyH.cons rfl (fun K hK => ?_) ?_
      · go_simp
        refine (HH.out _).mono ?_
        rintro e y3 ⟨rfl, hb⟩
        have K4 := K4.below hb K4.lt
        have K5 := K5.below hb K5.lt
        have HB : Hid (Below w.heap.size w y3) := HB.out.trans (hb.mono HB.out.size)
        clear hb hHeld
        go_wp2_with fail
        refine hK.out _ _ K5 (fun hHeld => ?_)
        clear hK K
        try simp only [Act.put, List.setIfInBounds_toArray, List.set_cons_zero, List.set_cons_succ]
        refine wpAnyH_take (i := 6) (oi := { dst := some 16, op := _, type := _, pos := _, after := _, guard := _ }) (v := .tuple #[.int .i64 TT, .agg (mk 2 CC), .bool OO]) rfl (by kernel_rfl) (by kernel_rfl) (by kernel_rfl) (fun _ _ _ h => h) (Or.inl ⟨by rfl, by intro w hSw; clear hSw; go_simp; (try with_reducible rfl)⟩) (by assumption) ?_
        try simp only [Act.put, List.setIfInBounds_toArray, List.set_cons_zero, List.set_cons_succ]
        refine wpAnyH_take (i := 7) (oi := { dst := some 23, op := _, type := _, pos := _, after := _, guard := _ }) (v := .int .i64 TT) rfl (by kernel_rfl) (by kernel_rfl) (by kernel_rfl) (fun _ _ _ h => h) (Or.inl ⟨by rfl, by intro w hSw; clear hSw; go_simp; (try with_reducible rfl)⟩) (by assumption) ?_
        try simp only [Act.put, List.setIfInBounds_toArray, List.set_cons_zero, List.set_cons_succ]
        refine wpAnyH_take (i := 8) (oi := { dst := some 24, op := _, type := _, pos := _, after := _, guard := _ }) (v := .agg (mk 2 CC)) rfl (by kernel_rfl) (by kernel_rfl) (by kernel_rfl) (fun _ _ _ h => h) (Or.inl ⟨by rfl, by intro w hSw; clear hSw; go_simp; (try with_reducible rfl)⟩) (by assumption) ?_
        try simp only [Act.put, List.setIfInBounds_toArray, List.set_cons_zero, List.set_cons_succ]
        refine wpAnyH_take (i := 9) (oi := { dst := some 25, op := _, type := _, pos := _, after := _, guard := _ }) (v := .bool OO) rfl (by kernel_rfl) (by kernel_rfl) (by kernel_rfl) (fun _ _ _ h => h) (Or.inl ⟨by rfl, by intro w hSw; clear hSw; go_simp; (try with_reducible rfl)⟩) (by assumption) ?_
        try simp only [Act.put, List.setIfInBounds_toArray, List.set_cons_zero, List.set_cons_succ]
        refine wpAnyH_ready (rs := [10]) (by kernel_rfl) (by simp) ?_
        refine AllReadyH.cons rfl (fun K hK => ?_) AllReadyH.nil
        rw [if_pos (by rfl)]
        refine wp_allocC2 rfl ?_
        have K8 := Blk.new y3 2 (fun _ => 0) 22
        have H8 : Hid (w.heap.size + 1 < y3.heap.size ∧ b5 < y3.heap.size) := ⟨K4.lt, K5.lt⟩
        have K4 := K4.alloc (.cells (mk 2 fun _ => 0) 22)
        have K5 := K5.alloc (.cells (mk 2 fun _ => 0) 22)
        have HB : Hid (Below w.heap.size w (y3.alloc (.cells (mk 2 fun _ => 0) 22))) := HB.out.alloc HB.out.size _
        clear hHeld
        generalize y3.alloc (.cells (mk 2 fun _ => 0) 22) = y4 at *
        generalize y3.heap.size = b8 at *
        refine hK.out _ _ K5 (fun hHeld => ?_)
        clear hK K
        try simp only [Act.put, List.setIfInBounds_toArray, List.set_cons_zero, List.set_cons_succ]
        refine wpAnyH_take (i := 11) (oi := { dst := some 7, op := _, type := _, pos := _, after := _, guard := _ }) (v := .int .i64 TT) rfl (by kernel_rfl) (by kernel_rfl) (by kernel_rfl) (fun _ _ _ h => h) (Or.inl ⟨by rfl, by intro w hSw; clear hSw; go_simp; (try with_reducible rfl)⟩) (by assumption) ?_
        try simp only [Act.put, List.setIfInBounds_toArray, List.set_cons_zero, List.set_cons_succ]
        refine wpAnyH_ready (rs := [12]) (by kernel_rfl) (by simp) ?_
        refine AllReadyH.cons rfl (fun K hK => ?_) AllReadyH.nil
        rw [if_pos (by rfl)]
        refine wp_stC2 (off := 0) (g := CC) K8 (by omega) rfl rfl rfl ?_
        rw [HPT.out]
        have K4 := K4.rowOther b8 (mk 2 CC) (by have := H8.out; omega)
        have K5 := K5.rowOther b8 (mk 2 CC) (by have := H8.out; omega)
        have HB : Hid (Below w.heap.size w (y4.setRow b8 (mk 2 CC))) := below_setRow HB.out (by have := H8.out; omega) _
        have K8 := K8.row 2 CC
        generalize y4.setRow b8 (mk 2 CC) = z1 at *
        clear hHeld
        refine hK.out _ _ K5 (fun hHeld => ?_)
        clear hK K
        try simp only [Act.put, List.setIfInBounds_toArray, List.set_cons_zero, List.set_cons_succ]
        refine wpAnyH_take (i := 13) (oi := { dst := some 9, op := _, type := _, pos := _, after := _, guard := _ }) (v := .bool OO) rfl (by kernel_rfl) (by kernel_rfl) (by kernel_rfl) (fun _ _ _ h => h) (Or.inl ⟨by rfl, by intro w hSw; clear hSw; go_simp; (try with_reducible rfl)⟩) (by assumption) ?_
        try simp only [Act.put, List.setIfInBounds_toArray, List.set_cons_zero, List.set_cons_succ]
        refine wpAnyH_done (by kernel_rfl) ?_ _
        clear hHeld
        go_wp2_with (first | ((with_reducible show wpList _ _ _ (Oper.mk _ (Op.load 22 _) _ _ _ _ :: _) _ _); refine loadC (K8) rfl rfl rfl ?_) | ((with_reducible show wpList _ _ _ (Oper.mk _ (Op.store 22 _ _) _ _ _ _ :: _) _ _); refine storeC (K4) rfl rfl rfl rfl ?_))
        try simp only [Act.put, List.setIfInBounds_toArray, List.set_cons_zero, List.set_cons_succ]
        try simp only [Exit.inBlock, Exit.then]
        refine retcC (p := 4) (t := 22) (b := w.heap.size + 1) (f := CC) ?_ ?_ ?_ ?_ ?_
        · exact K4.row 2 CC
        · rfl
        · rfl
        · rfl
        · exact ⟨rfl, below_setRow HB.out (by omega) (mk 2 CC)⟩
      refine AllReadyH.cons rfl (fun K hK => ?_) AllReadyH.nil
      rw [if_pos (by rfl)]
      refine wp_allocC2 rfl ?_
      have K8 := Blk.new y2 2 (fun _ => 0) 22
      have H8 : Hid (w.heap.size + 1 < y2.heap.size ∧ b5 < y2.heap.size) := ⟨K4.lt, K5.lt⟩
      have K4 := K4.alloc (.cells (mk 2 fun _ => 0) 22)
      have K5 := K5.alloc (.cells (mk 2 fun _ => 0) 22)
      have HB : Hid (Below w.heap.size w (y2.alloc (.cells (mk 2 fun _ => 0) 22))) := HB.out.alloc HB.out.size _
      clear hHeld
      generalize y2.alloc (.cells (mk 2 fun _ => 0) 22) = y3 at *
      generalize y2.heap.size = b8 at *
      refine hK.out _ _ K5 (fun hHeld => ?_)
      clear hK K
      try simp only [Act.put, List.setIfInBounds_toArray, List.set_cons_zero, List.set_cons_succ]
      refine wpAnyH_ready (rs := [5]) (by kernel_rfl) (by simp) ?_
      refine AllReadyH.cons rfl (fun K hK => ?_) AllReadyH.nil
      go_simp
      refine (HH.out _).mono ?_
      rintro e y4 ⟨rfl, hb⟩
      have K4 := K4.below hb K4.lt
      have K5 := K5.below hb K5.lt
      have K8 := K8.below hb K8.lt
      have HB : Hid (Below w.heap.size w y4) := HB.out.trans (hb.mono HB.out.size)
      clear hb hHeld
      go_wp2_with fail
      refine hK.out _ _ K5 (fun hHeld => ?_)
      clear hK K
      try simp only [Act.put, List.setIfInBounds_toArray, List.set_cons_zero, List.set_cons_succ]
      refine wpAnyH_take (i := 6) (oi := { dst := some 16, op := _, type := _, pos := _, after := _, guard := _ }) (v := .tuple #[.int .i64 TT, .agg (mk 2 CC), .bool OO]) rfl (by kernel_rfl) (by kernel_rfl) (by kernel_rfl) (fun _ _ _ h => h) (Or.inl ⟨by rfl, by intro w hSw; clear hSw; go_simp; (try with_reducible rfl)⟩) (by assumption) ?_
      try simp only [Act.put, List.setIfInBounds_toArray, List.set_cons_zero, List.set_cons_succ]
      refine wpAnyH_take (i := 7) (oi := { dst := some 23, op := _, type := _, pos := _, after := _, guard := _ }) (v := .int .i64 TT) rfl (by kernel_rfl) (by kernel_rfl) (by kernel_rfl) (fun _ _ _ h => h) (Or.inl ⟨by rfl, by intro w hSw; clear hSw; go_simp; (try with_reducible rfl)⟩) (by assumption) ?_
      try simp only [Act.put, List.setIfInBounds_toArray, List.set_cons_zero, List.set_cons_succ]
      refine wpAnyH_take (i := 8) (oi := { dst := some 24, op := _, type := _, pos := _, after := _, guard := _ }) (v := .agg (mk 2 CC)) rfl (by kernel_rfl) (by kernel_rfl) (by kernel_rfl) (fun _ _ _ h => h) (Or.inl ⟨by rfl, by intro w hSw; clear hSw; go_simp; (try with_reducible rfl)⟩) (by assumption) ?_
      try simp only [Act.put, List.setIfInBounds_toArray, List.set_cons_zero, List.set_cons_succ]
      refine wpAnyH_take (i := 9) (oi := { dst := some 25, op := _, type := _, pos := _, after := _, guard := _ }) (v := .bool OO) rfl (by kernel_rfl) (by kernel_rfl) (by kernel_rfl) (fun _ _ _ h => h) (Or.inl ⟨by rfl, by intro w hSw; clear hSw; go_simp; (try with_reducible rfl)⟩) (by assumption) ?_
      try simp only [Act.put, List.setIfInBounds_toArray, List.set_cons_zero, List.set_cons_succ]
      refine wpAnyH_take (i := 11) (oi := { dst := some 7, op := _, type := _, pos := _, after := _, guard := _ }) (v := .int .i64 TT) rfl (by kernel_rfl) (by kernel_rfl) (by kernel_rfl) (fun _ _ _ h => h) (Or.inl ⟨by rfl, by intro w hSw; clear hSw; go_simp; (try with_reducible rfl)⟩) (by assumption) ?_
      try simp only [Act.put, List.setIfInBounds_toArray, List.set_cons_zero, List.set_cons_succ]
      refine wpAnyH_ready (rs := [12]) (by kernel_rfl) (by simp) ?_
      refine AllReadyH.cons rfl (fun K hK => ?_) AllReadyH.nil
      rw [if_pos (by rfl)]
      refine wp_stC2 (off := 0) (g := CC) K8 (by omega) rfl rfl rfl ?_
      rw [HPT.out]
      have K4 := K4.rowOther b8 (mk 2 CC) (by have := H8.out; omega)
      have K5 := K5.rowOther b8 (mk 2 CC) (by have := H8.out; omega)
      have HB : Hid (Below w.heap.size w (y4.setRow b8 (mk 2 CC))) := below_setRow HB.out (by have := H8.out; omega) _
      have K8 := K8.row 2 CC
      generalize y4.setRow b8 (mk 2 CC) = z1 at *
      clear hHeld
      refine hK.out _ _ K5 (fun hHeld => ?_)
      clear hK K
      try simp only [Act.put, List.setIfInBounds_toArray, List.set_cons_zero, List.set_cons_succ]
      refine wpAnyH_take (i := 13) (oi := { dst := some 9, op := _, type := _, pos := _, after := _, guard := _ }) (v := .bool OO) rfl (by kernel_rfl) (by kernel_rfl) (by kernel_rfl) (fun _ _ _ h => h) (Or.inl ⟨by rfl, by intro w hSw; clear hSw; go_simp; (try with_reducible rfl)⟩) (by assumption) ?_
      try simp only [Act.put, List.setIfInBounds_toArray, List.set_cons_zero, List.set_cons_succ]
      refine wpAnyH_done (by kernel_rfl) ?_ _
      clear hHeld
      go_wp2_with (first | ((with_reducible show wpList _ _ _ (Oper.mk _ (Op.load 22 _) _ _ _ _ :: _) _ _); refine loadC (K8) rfl rfl rfl ?_) | ((with_reducible show wpList _ _ _ (Oper.mk _ (Op.store 22 _ _) _ _ _ _ :: _) _ _); refine storeC (K4) rfl rfl rfl rfl ?_))
      try simp only [Act.put, List.setIfInBounds_toArray, List.set_cons_zero, List.set_cons_succ]
      try simp only [Exit.inBlock, Exit.then]
      refine retcC (p := 4) (t := 22) (b := w.heap.size + 1) (f := CC) ?_ ?_ ?_ ?_ ?_
      · exact K4.row 2 CC
      · rfl
      · rfl
      · rfl
      · exact ⟨rfl, below_setRow HB.out (by omega) (mk 2 CC)⟩
    refine AllReadyH.cons rfl (fun K hK => ?_) AllReadyH.nil
    rw [if_pos (by rfl)]
    refine wp_allocC2 rfl ?_
    have K8 := Blk.new y1 2 (fun _ => 0) 22
    have H8 : Hid (w.heap.size + 1 < y1.heap.size ∧ b5 < y1.heap.size) := ⟨K4.lt, K5.lt⟩
    have K4 := K4.alloc (.cells (mk 2 fun _ => 0) 22)
    have K5 := K5.alloc (.cells (mk 2 fun _ => 0) 22)
    have HB : Hid (Below w.heap.size w (y1.alloc (.cells (mk 2 fun _ => 0) 22))) := HB.out.alloc HB.out.size _
    clear hHeld
    generalize y1.alloc (.cells (mk 2 fun _ => 0) 22) = y2 at *
    generalize y1.heap.size = b8 at *
    refine hK.out _ _ K5 (fun hHeld => ?_)
    clear hK K
    try simp only [Act.put, List.setIfInBounds_toArray, List.set_cons_zero, List.set_cons_succ]
    refine wpAnyH_ready (rs := [4]) (by kernel_rfl) (by simp) ?_
    refine AllReadyH.cons rfl (fun K hK => ?_) AllReadyH.nil
    go_simp
    refine (form1_any M _).mono ?_
    rintro e y3 ⟨rfl, hb⟩
    have K4 := K4.below hb K4.lt
    have K5 := K5.below hb K5.lt
    have K8 := K8.below hb K8.lt
    have HB : Hid (Below w.heap.size w y3) := HB.out.trans (hb.mono HB.out.size)
    clear hb hHeld
    go_wp2_with fail
    refine hK.out _ _ K5 (fun hHeld => ?_)
    clear hK K
    try simp only [Act.put, List.setIfInBounds_toArray, List.set_cons_zero, List.set_cons_succ]
    refine wpAnyH_ready (rs := [5]) (by kernel_rfl) (by simp) ?_
    refine AllReadyH.cons rfl (fun K hK => ?_) AllReadyH.nil
    go_simp
    refine (HH.out _).mono ?_
    rintro e y4 ⟨rfl, hb⟩
    have K4 := K4.below hb K4.lt
    have K5 := K5.below hb K5.lt
    have K8 := K8.below hb K8.lt
    have HB : Hid (Below w.heap.size w y4) := HB.out.trans (hb.mono HB.out.size)
    clear hb hHeld
    go_wp2_with fail
    refine hK.out _ _ K5 (fun hHeld => ?_)
    clear hK K
    try simp only [Act.put, List.setIfInBounds_toArray, List.set_cons_zero, List.set_cons_succ]
    refine wpAnyH_take (i := 6) (oi := { dst := some 16, op := _, type := _, pos := _, after := _, guard := _ }) (v := .tuple #[.int .i64 TT, .agg (mk 2 CC), .bool OO]) rfl (by kernel_rfl) (by kernel_rfl) (by kernel_rfl) (fun _ _ _ h => h) (Or.inl ⟨by rfl, by intro w hSw; clear hSw; go_simp; (try with_reducible rfl)⟩) (by assumption) ?_
    try simp only [Act.put, List.setIfInBounds_toArray, List.set_cons_zero, List.set_cons_succ]
    refine wpAnyH_take (i := 7) (oi := { dst := some 23, op := _, type := _, pos := _, after := _, guard := _ }) (v := .int .i64 TT) rfl (by kernel_rfl) (by kernel_rfl) (by kernel_rfl) (fun _ _ _ h => h) (Or.inl ⟨by rfl, by intro w hSw; clear hSw; go_simp; (try with_reducible rfl)⟩) (by assumption) ?_
    try simp only [Act.put, List.setIfInBounds_toArray, List.set_cons_zero, List.set_cons_succ]
    refine wpAnyH_take (i := 8) (oi := { dst := some 24, op := _, type := _, pos := _, after := _, guard := _ }) (v := .agg (mk 2 CC)) rfl (by kernel_rfl) (by kernel_rfl) (by kernel_rfl) (fun _ _ _ h => h) (Or.inl ⟨by rfl, by intro w hSw; clear hSw; go_simp; (try with_reducible rfl)⟩) (by assumption) ?_
    try simp only [Act.put, List.setIfInBounds_toArray, List.set_cons_zero, List.set_cons_succ]
    refine wpAnyH_take (i := 9) (oi := { dst := some 25, op := _, type := _, pos := _, after := _, guard := _ }) (v := .bool OO) rfl (by kernel_rfl) (by kernel_rfl) (by kernel_rfl) (fun _ _ _ h => h) (Or.inl ⟨by rfl, by intro w hSw; clear hSw; go_simp; (try with_reducible rfl)⟩) (by assumption) ?_
    try simp only [Act.put, List.setIfInBounds_toArray, List.set_cons_zero, List.set_cons_succ]
    refine wpAnyH_take (i := 11) (oi := { dst := some 7, op := _, type := _, pos := _, after := _, guard := _ }) (v := .int .i64 TT) rfl (by kernel_rfl) (by kernel_rfl) (by kernel_rfl) (fun _ _ _ h => h) (Or.inl ⟨by rfl, by intro w hSw; clear hSw; go_simp; (try with_reducible rfl)⟩) (by assumption) ?_
    try simp only [Act.put, List.setIfInBounds_toArray, List.set_cons_zero, List.set_cons_succ]
    refine wpAnyH_ready (rs := [12]) (by kernel_rfl) (by simp) ?_
    refine AllReadyH.cons rfl (fun K hK => ?_) AllReadyH.nil
    rw [if_pos (by rfl)]
    refine wp_stC2 (off := 0) (g := CC) K8 (by omega) rfl rfl rfl ?_
    rw [HPT.out]
    have K4 := K4.rowOther b8 (mk 2 CC) (by have := H8.out; omega)
    have K5 := K5.rowOther b8 (mk 2 CC) (by have := H8.out; omega)
    have HB : Hid (Below w.heap.size w (y4.setRow b8 (mk 2 CC))) := below_setRow HB.out (by have := H8.out; omega) _
    have K8 := K8.row 2 CC
    generalize y4.setRow b8 (mk 2 CC) = z1 at *
    clear hHeld
    refine hK.out _ _ K5 (fun hHeld => ?_)
    clear hK K
    try simp only [Act.put, List.setIfInBounds_toArray, List.set_cons_zero, List.set_cons_succ]
    refine wpAnyH_take (i := 13) (oi := { dst := some 9, op := _, type := _, pos := _, after := _, guard := _ }) (v := .bool OO) rfl (by kernel_rfl) (by kernel_rfl) (by kernel_rfl) (fun _ _ _ h => h) (Or.inl ⟨by rfl, by intro w hSw; clear hSw; go_simp; (try with_reducible rfl)⟩) (by assumption) ?_
    try simp only [Act.put, List.setIfInBounds_toArray, List.set_cons_zero, List.set_cons_succ]
    refine wpAnyH_done (by kernel_rfl) ?_ _
    clear hHeld
    go_wp2_with (first | ((with_reducible show wpList _ _ _ (Oper.mk _ (Op.load 22 _) _ _ _ _ :: _) _ _); refine loadC (K8) rfl rfl rfl ?_) | ((with_reducible show wpList _ _ _ (Oper.mk _ (Op.store 22 _ _) _ _ _ _ :: _) _ _); refine storeC (K4) rfl rfl rfl rfl ?_))
    try simp only [Act.put, List.setIfInBounds_toArray, List.set_cons_zero, List.set_cons_succ]
    try simp only [Exit.inBlock, Exit.then]
    refine retcC (p := 4) (t := 22) (b := w.heap.size + 1) (f := CC) ?_ ?_ ?_ ?_ ?_
    · exact K4.row 2 CC
    · rfl
    · rfl
    · rfl
    · exact ⟨rfl, below_setRow HB.out (by omega) (mk 2 CC)⟩
  refine AllReadyH.cons rfl (fun K hK => ?_) AllReadyH.nil
  rw [if_pos (by rfl)]
  refine wp_allocC2 rfl ?_
  have K8 := Blk.new y0 2 (fun _ => 0) 22
  have H8 : Hid (w.heap.size + 1 < y0.heap.size ∧ b5 < y0.heap.size) := ⟨K4.lt, K5.lt⟩
  have K4 := K4.alloc (.cells (mk 2 fun _ => 0) 22)
  have K5 := K5.alloc (.cells (mk 2 fun _ => 0) 22)
  have HB : Hid (Below w.heap.size w (y0.alloc (.cells (mk 2 fun _ => 0) 22))) := HB.out.alloc HB.out.size _
  clear hHeld
  generalize y0.alloc (.cells (mk 2 fun _ => 0) 22) = y1 at *
  generalize y0.heap.size = b8 at *
  refine hK.out _ _ K5 (fun hHeld => ?_)
  clear hK K
  try simp only [Act.put, List.setIfInBounds_toArray, List.set_cons_zero, List.set_cons_succ]
  refine wpAnyH_ready (rs := [0]) (by kernel_rfl) (by simp) ?_
  refine AllReadyH.cons rfl (fun K hK => ?_) AllReadyH.nil
  go_simp
  refine (forms_any _).mono ?_
  rintro e y2 ⟨rfl, hb⟩
  have K4 := K4.below hb K4.lt
  have K5 := K5.below hb K5.lt
  have K8 := K8.below hb K8.lt
  have HB : Hid (Below w.heap.size w y2) := HB.out.trans (hb.mono HB.out.size)
  clear hb hHeld
  go_wp2_with fail
  refine hK.out _ _ K5 (fun hHeld => ?_)
  clear hK K
  try simp only [Act.put, List.setIfInBounds_toArray, List.set_cons_zero, List.set_cons_succ]
  refine wpAnyH_take (i := 2) (oi := { dst := some 19, op := _, type := _, pos := _, after := _, guard := _ }) (v := .func (.func 68) #[] #[]) rfl (by kernel_rfl) (by kernel_rfl) (by kernel_rfl) (fun _ _ _ h => h) (Or.inl ⟨by rfl, by intro W hSw; clear hSw; have iF := idxF1 W; go_simp⟩) (by assumption) ?_
  try simp only [Act.put, List.setIfInBounds_toArray, List.set_cons_zero, List.set_cons_succ]
  refine wpAnyH_ready (rs := [4]) (by kernel_rfl) (by simp) ?_
  refine AllReadyH.cons rfl (fun K hK => ?_) AllReadyH.nil
  go_simp
  refine (form1_any M _).mono ?_
  rintro e y3 ⟨rfl, hb⟩
  have K4 := K4.below hb K4.lt
  have K5 := K5.below hb K5.lt
  have K8 := K8.below hb K8.lt
  have HB : Hid (Below w.heap.size w y3) := HB.out.trans (hb.mono HB.out.size)
  clear hb hHeld
  go_wp2_with fail
  refine hK.out _ _ K5 (fun hHeld => ?_)
  clear hK K
  try simp only [Act.put, List.setIfInBounds_toArray, List.set_cons_zero, List.set_cons_succ]
  refine wpAnyH_ready (rs := [5]) (by kernel_rfl) (by simp) ?_
  refine AllReadyH.cons rfl (fun K hK => ?_) AllReadyH.nil
  go_simp
  refine (HH.out _).mono ?_
  rintro e y4 ⟨rfl, hb⟩
  have K4 := K4.below hb K4.lt
  have K5 := K5.below hb K5.lt
  have K8 := K8.below hb K8.lt
  have HB : Hid (Below w.heap.size w y4) := HB.out.trans (hb.mono HB.out.size)
  clear hb hHeld
  go_wp2_with fail
  refine hK.out _ _ K5 (fun hHeld => ?_)
  clear hK K
  try simp only [Act.put, List.setIfInBounds_toArray, List.set_cons_zero, List.set_cons_succ]
  refine wpAnyH_take (i := 6) (oi := { dst := some 16, op := _, type := _, pos := _, after := _, guard := _ }) (v := .tuple #[.int .i64 TT, .agg (mk 2 CC), .bool OO]) rfl (by kernel_rfl) (by kernel_rfl) (by kernel_rfl) (fun _ _ _ h => h) (Or.inl ⟨by rfl, by intro w hSw; clear hSw; go_simp; (try with_reducible rfl)⟩) (by assumption) ?_
  try simp only [Act.put, List.setIfInBounds_toArray, List.set_cons_zero, List.set_cons_succ]
  refine wpAnyH_take (i := 7) (oi := { dst := some 23, op := _, type := _, pos := _, after := _, guard := _ }) (v := .int .i64 TT) rfl (by kernel_rfl) (by kernel_rfl) (by kernel_rfl) (fun _ _ _ h => h) (Or.inl ⟨by rfl, by intro w hSw; clear hSw; go_simp; (try with_reducible rfl)⟩) (by assumption) ?_
  try simp only [Act.put, List.setIfInBounds_toArray, List.set_cons_zero, List.set_cons_succ]
  refine wpAnyH_take (i := 8) (oi := { dst := some 24, op := _, type := _, pos := _, after := _, guard := _ }) (v := .agg (mk 2 CC)) rfl (by kernel_rfl) (by kernel_rfl) (by kernel_rfl) (fun _ _ _ h => h) (Or.inl ⟨by rfl, by intro w hSw; clear hSw; go_simp; (try with_reducible rfl)⟩) (by assumption) ?_
  try simp only [Act.put, List.setIfInBounds_toArray, List.set_cons_zero, List.set_cons_succ]
  refine wpAnyH_take (i := 9) (oi := { dst := some 25, op := _, type := _, pos := _, after := _, guard := _ }) (v := .bool OO) rfl (by kernel_rfl) (by kernel_rfl) (by kernel_rfl) (fun _ _ _ h => h) (Or.inl ⟨by rfl, by intro w hSw; clear hSw; go_simp; (try with_reducible rfl)⟩) (by assumption) ?_
  try simp only [Act.put, List.setIfInBounds_toArray, List.set_cons_zero, List.set_cons_succ]
  refine wpAnyH_take (i := 11) (oi := { dst := some 7, op := _, type := _, pos := _, after := _, guard := _ }) (v := .int .i64 TT) rfl (by kernel_rfl) (by kernel_rfl) (by kernel_rfl) (fun _ _ _ h => h) (Or.inl ⟨by rfl, by intro w hSw; clear hSw; go_simp; (try with_reducible rfl)⟩) (by assumption) ?_
  try simp only [Act.put, List.setIfInBounds_toArray, List.set_cons_zero, List.set_cons_succ]
  refine wpAnyH_ready (rs := [12]) (by kernel_rfl) (by simp) ?_
  refine AllReadyH.cons rfl (fun K hK => ?_) AllReadyH.nil
  rw [if_pos (by rfl)]
  refine wp_stC2 (off := 0) (g := CC) K8 (by omega) rfl rfl rfl ?_
  rw [HPT.out]
  have K4 := K4.rowOther b8 (mk 2 CC) (by have := H8.out; omega)
  have K5 := K5.rowOther b8 (mk 2 CC) (by have := H8.out; omega)
  have HB : Hid (Below w.heap.size w (y4.setRow b8 (mk 2 CC))) := below_setRow HB.out (by have := H8.out; omega) _
  have K8 := K8.row 2 CC
  generalize y4.setRow b8 (mk 2 CC) = z1 at *
  clear hHeld
  refine hK.out _ _ K5 (fun hHeld => ?_)
  clear hK K
  try simp only [Act.put, List.setIfInBounds_toArray, List.set_cons_zero, List.set_cons_succ]
  refine wpAnyH_take (i := 13) (oi := { dst := some 9, op := _, type := _, pos := _, after := _, guard := _ }) (v := .bool OO) rfl (by kernel_rfl) (by kernel_rfl) (by kernel_rfl) (fun _ _ _ h => h) (Or.inl ⟨by rfl, by intro w hSw; clear hSw; go_simp; (try with_reducible rfl)⟩) (by assumption) ?_
  try simp only [Act.put, List.setIfInBounds_toArray, List.set_cons_zero, List.set_cons_succ]
  refine wpAnyH_done (by kernel_rfl) ?_ _
  clear hHeld
  go_wp2_with (first | ((with_reducible show wpList _ _ _ (Oper.mk _ (Op.load 22 _) _ _ _ _ :: _) _ _); refine loadC (K8) rfl rfl rfl ?_) | ((with_reducible show wpList _ _ _ (Oper.mk _ (Op.store 22 _ _) _ _ _ _ :: _) _ _); refine storeC (K4) rfl rfl rfl rfl ?_))
  try simp only [Act.put, List.setIfInBounds_toArray, List.set_cons_zero, List.set_cons_succ]
  try simp only [Exit.inBlock, Exit.then]
  refine retcC (p := 4) (t := 22) (b := w.heap.size + 1) (f := CC) ?_ ?_ ?_ ?_ ?_
  · exact K4.row 2 CC
  · rfl
  · rfl
  · rfl
  · exact ⟨rfl, below_setRow HB.out (by omega) (mk 2 CC)⟩
set_option maxHeartbeats 4000000 in
set_option maxRecDepth 20000 in
theorem formCell2_any (R C : Nat) (hR : R < 4) (hC : C < 4) (w : World) :
    Calls Try.prog 48 #[.agg (mk 2 (two (R : Int) (C : Int))), .int .i64 2] w fun e w' => e = .returned (.agg (mk 2 (cellF (fcP (R * 4 + C) 2)))) ∧ Below w.heap.size w w' := by
  have z16 := zero16
  have z2 := zero2
  have HP := Lib.hid (fun w => putOne R C hR hC w)
  have HH := Lib.hid (fun w => highOne (R * 4 + C) 2 w)
  clear hR hC
  have K2 := (Blk.new w 2 (two (R : Int) (C : Int)) 22).alloc (.cells (mk 2 fun _ => 0) 22)
  have K4 := Blk.new (w.alloc (.cells (mk 2 (two (R : Int) (C : Int))) 22)) 2 (fun _ => 0) 22
  simp only [World.size_alloc] at K4
  have HB := Lib.hid (((Below.refl w.heap.size w).alloc (Nat.le_refl _) (.cells (mk 2 (two (R : Int) (C : Int))) 22)).alloc (by simp) (.cells (mk 2 fun _ => 0) 22))
  generalize hM : upd (fun _ => 0) (R * 4 + C) 1 = M at *
  generalize hiT (formF M 2) = TT at *
  generalize hiO (formF M 2) = OO at *
  generalize cellF (fcP (R * 4 + C) 2) = CC at *
  have HPT : Hid (mk 2 (patch (fun _ => 0) 0 2 CC) = mk 2 CC) := mk_congr fun j hj => by unfold patch; rw [if_pos (by omega), Nat.sub_zero]
  clear hM
  go_enter Try.func48, Try.ntmps48
  go_wp2_with ((with_reducible show wpList _ _ _ (Oper.mk _ (Op.load 22 _) _ _ _ _ :: _) _ _); refine loadC (K2) rfl rfl rfl ?_)
  refine (HP.out _).mono ?_
  rintro e w2 ⟨rfl, hb⟩
  have hlt := K4.lt
  have K4 := K4.below hb K4.lt
  have H5 : Hid (w.heap.size + 1 < w2.heap.size) := K4.lt
  have HB := HB.out.trans (hb.mono HB.out.size)
  have HB : Hid (Below w.heap.size w (w2.alloc (.cells (mk 16 M) 35))) := HB.alloc HB.size _
  have K4 := K4.alloc (.cells (mk 16 M) 35)
  have K5 := Blk.new w2 16 M 35
  clear hb HP K2 hlt
  go_wp2_with fail
  generalize w2.alloc (.cells (mk 16 M) 35) = w3 at *
  generalize w2.heap.size = b5 at *
  refine wp_region_held_drew (S := fun W => Blk W b5 16 M 35) (by kernel_rfl) (K5.drew) (fun hHeld => ?_)
  have K4 := K4.drew
  have K5 : Blk w3.drew b5 16 M 35 := K5.drew
  have HB : Hid (Below w.heap.size w w3.drew) := HB.out.drew
  generalize w3.drew = y0 at *
  refine wpAnyH_take (i := 1) (oi := { dst := some 18, op := _, type := _, pos := _, after := _, guard := _ }) (v := .int .i64 2) rfl (by kernel_rfl) (by kernel_rfl) (by kernel_rfl) (fun _ _ _ h => h) (Or.inl ⟨by rfl, by intro w hSw; clear hSw; go_simp; (try with_reducible rfl)⟩) (by assumption) ?_
  try simp only [Act.put, List.setIfInBounds_toArray, List.set_cons_zero, List.set_cons_succ]
  refine wpAnyH_take (i := 3) (oi := { dst := some 20, op := _, type := _, pos := _, after := _, guard := _ }) (v := .agg (mk 16 M)) rfl (by kernel_rfl) (by kernel_rfl) (by kernel_rfl) (fun _ _ _ h => h) (Or.inl ⟨by rfl, fun _ q => execB q rfl rfl⟩) (by assumption) ?_
  try simp only [Act.put, List.setIfInBounds_toArray, List.set_cons_zero, List.set_cons_succ]
  refine wpAnyH_ready (rs := [0, 10]) (by kernel_rfl) (by simp) ?_
  refine AllReadyH.cons rfl (fun K hK => ?_) ?_
  · go_simp
    refine (forms_any _).mono ?_
    rintro e y1 ⟨rfl, hb⟩
    have K4 := K4.below hb K4.lt
    have K5 := K5.below hb K5.lt
    have HB : Hid (Below w.heap.size w y1) := HB.out.trans (hb.mono HB.out.size)
    clear hb hHeld
    go_wp2_with fail
    refine hK.out _ _ K5 (fun hHeld => ?_)
    clear hK K
    try simp only [Act.put, List.setIfInBounds_toArray, List.set_cons_zero, List.set_cons_succ]
    refine wpAnyH_take (i := 2) (oi := { dst := some 19, op := _, type := _, pos := _, after := _, guard := _ }) (v := .func (.func 69) #[] #[]) rfl (by kernel_rfl) (by kernel_rfl) (by kernel_rfl) (fun _ _ _ h => h) (Or.inl ⟨by rfl, by intro W hSw; clear hSw; have iF := idxF2 W; go_simp⟩) (by assumption) ?_
    try simp only [Act.put, List.setIfInBounds_toArray, List.set_cons_zero, List.set_cons_succ]
    refine wpAnyH_ready (rs := [4, 10]) (by kernel_rfl) (by simp) ?_
    refine AllReadyH.cons rfl (fun K hK => ?_) ?_
    · go_simp
      refine (form2_any M _).mono ?_
      rintro e y2 ⟨rfl, hb⟩
      have K4 := K4.below hb K4.lt
      have K5 := K5.below hb K5.lt
      have HB : Hid (Below w.heap.size w y2) := HB.out.trans (hb.mono HB.out.size)
      clear hb hHeld
      go_wp2_with fail
      refine hK.out _ _ K5 (fun hHeld => ?_)
      clear hK K
      try simp only [Act.put, List.setIfInBounds_toArray, List.set_cons_zero, List.set_cons_succ]
      refine wpAnyH_ready (rs := [5, 10]) (by kernel_rfl) (by simp) ?_
      refine AllReadyH.cons rfl (fun K hK => ?_) ?_
      · go_simp
        refine (HH.out _).mono ?_
        rintro e y3 ⟨rfl, hb⟩
        have K4 := K4.below hb K4.lt
        have K5 := K5.below hb K5.lt
        have HB : Hid (Below w.heap.size w y3) := HB.out.trans (hb.mono HB.out.size)
        clear hb hHeld
        go_wp2_with fail
        refine hK.out _ _ K5 (fun hHeld => ?_)
        clear hK K
        try simp only [Act.put, List.setIfInBounds_toArray, List.set_cons_zero, List.set_cons_succ]
        refine wpAnyH_take (i := 6) (oi := { dst := some 16, op := _, type := _, pos := _, after := _, guard := _ }) (v := .tuple #[.int .i64 TT, .agg (mk 2 CC), .bool OO]) rfl (by kernel_rfl) (by kernel_rfl) (by kernel_rfl) (fun _ _ _ h => h) (Or.inl ⟨by rfl, by intro w hSw; clear hSw; go_simp; (try with_reducible rfl)⟩) (by assumption) ?_
        try simp only [Act.put, List.setIfInBounds_toArray, List.set_cons_zero, List.set_cons_succ]
        refine wpAnyH_take (i := 7) (oi := { dst := some 23, op := _, type := _, pos := _, after := _, guard := _ }) (v := .int .i64 TT) rfl (by kernel_rfl) (by kernel_rfl) (by kernel_rfl) (fun _ _ _ h => h) (Or.inl ⟨by rfl, by intro w hSw; clear hSw; go_simp; (try with_reducible rfl)⟩) (by assumption) ?_
        try simp only [Act.put, List.setIfInBounds_toArray, List.set_cons_zero, List.set_cons_succ]
        refine wpAnyH_take (i := 8) (oi := { dst := some 24, op := _, type := _, pos := _, after := _, guard := _ }) (v := .agg (mk 2 CC)) rfl (by kernel_rfl) (by kernel_rfl) (by kernel_rfl) (fun _ _ _ h => h) (Or.inl ⟨by rfl, by intro w hSw; clear hSw; go_simp; (try with_reducible rfl)⟩) (by assumption) ?_
        try simp only [Act.put, List.setIfInBounds_toArray, List.set_cons_zero, List.set_cons_succ]
        refine wpAnyH_take (i := 9) (oi := { dst := some 25, op := _, type := _, pos := _, after := _, guard := _ }) (v := .bool OO) rfl (by kernel_rfl) (by kernel_rfl) (by kernel_rfl) (fun _ _ _ h => h) (Or.inl ⟨by rfl, by intro w hSw; clear hSw; go_simp; (try with_reducible rfl)⟩) (by assumption) ?_
        try simp only [Act.put, List.setIfInBounds_toArray, List.set_cons_zero, List.set_cons_succ]
        refine wpAnyH_ready (rs := [10]) (by kernel_rfl) (by simp) ?_
        refine AllReadyH.cons rfl (fun K hK => ?_) AllReadyH.nil
        rw [if_pos (by rfl)]
        refine wp_allocC2 rfl ?_
        have K8 := Blk.new y3 2 (fun _ => 0) 22
        have H8 : Hid (w.heap.size + 1 < y3.heap.size ∧ b5 < y3.heap.size) := ⟨K4.lt, K5.lt⟩
        have K4 := K4.alloc (.cells (mk 2 fun _ => 0) 22)
        have K5 := K5.alloc (.cells (mk 2 fun _ => 0) 22)
        have HB : Hid (Below w.heap.size w (y3.alloc (.cells (mk 2 fun _ => 0) 22))) := HB.out.alloc HB.out.size _
        clear hHeld
        generalize y3.alloc (.cells (mk 2 fun _ => 0) 22) = y4 at *
        generalize y3.heap.size = b8 at *
        refine hK.out _ _ K5 (fun hHeld => ?_)
        clear hK K
        try simp only [Act.put, List.setIfInBounds_toArray, List.set_cons_zero, List.set_cons_succ]
        refine wpAnyH_take (i := 11) (oi := { dst := some 7, op := _, type := _, pos := _, after := _, guard := _ }) (v := .int .i64 TT) rfl (by kernel_rfl) (by kernel_rfl) (by kernel_rfl) (fun _ _ _ h => h) (Or.inl ⟨by rfl, by intro w hSw; clear hSw; go_simp; (try with_reducible rfl)⟩) (by assumption) ?_
        try simp only [Act.put, List.setIfInBounds_toArray, List.set_cons_zero, List.set_cons_succ]
        refine wpAnyH_ready (rs := [12]) (by kernel_rfl) (by simp) ?_
        refine AllReadyH.cons rfl (fun K hK => ?_) AllReadyH.nil
        rw [if_pos (by rfl)]
        refine wp_stC2 (off := 0) (g := CC) K8 (by omega) rfl rfl rfl ?_
        rw [HPT.out]
        have K4 := K4.rowOther b8 (mk 2 CC) (by have := H8.out; omega)
        have K5 := K5.rowOther b8 (mk 2 CC) (by have := H8.out; omega)
        have HB : Hid (Below w.heap.size w (y4.setRow b8 (mk 2 CC))) := below_setRow HB.out (by have := H8.out; omega) _
        have K8 := K8.row 2 CC
        generalize y4.setRow b8 (mk 2 CC) = z1 at *
        clear hHeld
        refine hK.out _ _ K5 (fun hHeld => ?_)
        clear hK K
        try simp only [Act.put, List.setIfInBounds_toArray, List.set_cons_zero, List.set_cons_succ]
        refine wpAnyH_take (i := 13) (oi := { dst := some 9, op := _, type := _, pos := _, after := _, guard := _ }) (v := .bool OO) rfl (by kernel_rfl) (by kernel_rfl) (by kernel_rfl) (fun _ _ _ h => h) (Or.inl ⟨by rfl, by intro w hSw; clear hSw; go_simp; (try with_reducible rfl)⟩) (by assumption) ?_
        try simp only [Act.put, List.setIfInBounds_toArray, List.set_cons_zero, List.set_cons_succ]
        refine wpAnyH_done (by kernel_rfl) ?_ _
        clear hHeld
        go_wp2_with (first | ((with_reducible show wpList _ _ _ (Oper.mk _ (Op.load 22 _) _ _ _ _ :: _) _ _); refine loadC (K8) rfl rfl rfl ?_) | ((with_reducible show wpList _ _ _ (Oper.mk _ (Op.store 22 _ _) _ _ _ _ :: _) _ _); refine storeC (K4) rfl rfl rfl rfl ?_))
        try simp only [Act.put, List.setIfInBounds_toArray, List.set_cons_zero, List.set_cons_succ]
        try simp only [Exit.inBlock, Exit.then]
        refine retcC (p := 4) (t := 22) (b := w.heap.size + 1) (f := CC) ?_ ?_ ?_ ?_ ?_
        · exact K4.row 2 CC
        · rfl
        · rfl
        · rfl
        · exact ⟨rfl, below_setRow HB.out (by omega) (mk 2 CC)⟩
      refine AllReadyH.cons rfl (fun K hK => ?_) AllReadyH.nil
      rw [if_pos (by rfl)]
      refine wp_allocC2 rfl ?_
      have K8 := Blk.new y2 2 (fun _ => 0) 22
      have H8 : Hid (w.heap.size + 1 < y2.heap.size ∧ b5 < y2.heap.size) := ⟨K4.lt, K5.lt⟩
      have K4 := K4.alloc (.cells (mk 2 fun _ => 0) 22)
      have K5 := K5.alloc (.cells (mk 2 fun _ => 0) 22)
      have HB : Hid (Below w.heap.size w (y2.alloc (.cells (mk 2 fun _ => 0) 22))) := HB.out.alloc HB.out.size _
      clear hHeld
      generalize y2.alloc (.cells (mk 2 fun _ => 0) 22) = y3 at *
      generalize y2.heap.size = b8 at *
      refine hK.out _ _ K5 (fun hHeld => ?_)
      clear hK K
      try simp only [Act.put, List.setIfInBounds_toArray, List.set_cons_zero, List.set_cons_succ]
      refine wpAnyH_ready (rs := [5]) (by kernel_rfl) (by simp) ?_
      refine AllReadyH.cons rfl (fun K hK => ?_) AllReadyH.nil
      go_simp
      refine (HH.out _).mono ?_
      rintro e y4 ⟨rfl, hb⟩
      have K4 := K4.below hb K4.lt
      have K5 := K5.below hb K5.lt
      have K8 := K8.below hb K8.lt
      have HB : Hid (Below w.heap.size w y4) := HB.out.trans (hb.mono HB.out.size)
      clear hb hHeld
      go_wp2_with fail
      refine hK.out _ _ K5 (fun hHeld => ?_)
      clear hK K
      try simp only [Act.put, List.setIfInBounds_toArray, List.set_cons_zero, List.set_cons_succ]
      refine wpAnyH_take (i := 6) (oi := { dst := some 16, op := _, type := _, pos := _, after := _, guard := _ }) (v := .tuple #[.int .i64 TT, .agg (mk 2 CC), .bool OO]) rfl (by kernel_rfl) (by kernel_rfl) (by kernel_rfl) (fun _ _ _ h => h) (Or.inl ⟨by rfl, by intro w hSw; clear hSw; go_simp; (try with_reducible rfl)⟩) (by assumption) ?_
      try simp only [Act.put, List.setIfInBounds_toArray, List.set_cons_zero, List.set_cons_succ]
      refine wpAnyH_take (i := 7) (oi := { dst := some 23, op := _, type := _, pos := _, after := _, guard := _ }) (v := .int .i64 TT) rfl (by kernel_rfl) (by kernel_rfl) (by kernel_rfl) (fun _ _ _ h => h) (Or.inl ⟨by rfl, by intro w hSw; clear hSw; go_simp; (try with_reducible rfl)⟩) (by assumption) ?_
      try simp only [Act.put, List.setIfInBounds_toArray, List.set_cons_zero, List.set_cons_succ]
      refine wpAnyH_take (i := 8) (oi := { dst := some 24, op := _, type := _, pos := _, after := _, guard := _ }) (v := .agg (mk 2 CC)) rfl (by kernel_rfl) (by kernel_rfl) (by kernel_rfl) (fun _ _ _ h => h) (Or.inl ⟨by rfl, by intro w hSw; clear hSw; go_simp; (try with_reducible rfl)⟩) (by assumption) ?_
      try simp only [Act.put, List.setIfInBounds_toArray, List.set_cons_zero, List.set_cons_succ]
      refine wpAnyH_take (i := 9) (oi := { dst := some 25, op := _, type := _, pos := _, after := _, guard := _ }) (v := .bool OO) rfl (by kernel_rfl) (by kernel_rfl) (by kernel_rfl) (fun _ _ _ h => h) (Or.inl ⟨by rfl, by intro w hSw; clear hSw; go_simp; (try with_reducible rfl)⟩) (by assumption) ?_
      try simp only [Act.put, List.setIfInBounds_toArray, List.set_cons_zero, List.set_cons_succ]
      refine wpAnyH_take (i := 11) (oi := { dst := some 7, op := _, type := _, pos := _, after := _, guard := _ }) (v := .int .i64 TT) rfl (by kernel_rfl) (by kernel_rfl) (by kernel_rfl) (fun _ _ _ h => h) (Or.inl ⟨by rfl, by intro w hSw; clear hSw; go_simp; (try with_reducible rfl)⟩) (by assumption) ?_
      try simp only [Act.put, List.setIfInBounds_toArray, List.set_cons_zero, List.set_cons_succ]
      refine wpAnyH_ready (rs := [12]) (by kernel_rfl) (by simp) ?_
      refine AllReadyH.cons rfl (fun K hK => ?_) AllReadyH.nil
      rw [if_pos (by rfl)]
      refine wp_stC2 (off := 0) (g := CC) K8 (by omega) rfl rfl rfl ?_
      rw [HPT.out]
      have K4 := K4.rowOther b8 (mk 2 CC) (by have := H8.out; omega)
      have K5 := K5.rowOther b8 (mk 2 CC) (by have := H8.out; omega)
      have HB : Hid (Below w.heap.size w (y4.setRow b8 (mk 2 CC))) := below_setRow HB.out (by have := H8.out; omega) _
      have K8 := K8.row 2 CC
      generalize y4.setRow b8 (mk 2 CC) = z1 at *
      clear hHeld
      refine hK.out _ _ K5 (fun hHeld => ?_)
      clear hK K
      try simp only [Act.put, List.setIfInBounds_toArray, List.set_cons_zero, List.set_cons_succ]
      refine wpAnyH_take (i := 13) (oi := { dst := some 9, op := _, type := _, pos := _, after := _, guard := _ }) (v := .bool OO) rfl (by kernel_rfl) (by kernel_rfl) (by kernel_rfl) (fun _ _ _ h => h) (Or.inl ⟨by rfl, by intro w hSw; clear hSw; go_simp; (try with_reducible rfl)⟩) (by assumption) ?_
      try simp only [Act.put, List.setIfInBounds_toArray, List.set_cons_zero, List.set_cons_succ]
      refine wpAnyH_done (by kernel_rfl) ?_ _
      clear hHeld
      go_wp2_with (first | ((with_reducible show wpList _ _ _ (Oper.mk _ (Op.load 22 _) _ _ _ _ :: _) _ _); refine loadC (K8) rfl rfl rfl ?_) | ((with_reducible show wpList _ _ _ (Oper.mk _ (Op.store 22 _ _) _ _ _ _ :: _) _ _); refine storeC (K4) rfl rfl rfl rfl ?_))
      try simp only [Act.put, List.setIfInBounds_toArray, List.set_cons_zero, List.set_cons_succ]
      try simp only [Exit.inBlock, Exit.then]
      refine retcC (p := 4) (t := 22) (b := w.heap.size + 1) (f := CC) ?_ ?_ ?_ ?_ ?_
      · exact K4.row 2 CC
      · rfl
      · rfl
      · rfl
      · exact ⟨rfl, below_setRow HB.out (by omega) (mk 2 CC)⟩
    refine AllReadyH.cons rfl (fun K hK => ?_) AllReadyH.nil
    rw [if_pos (by rfl)]
    refine wp_allocC2 rfl ?_
    have K8 := Blk.new y1 2 (fun _ => 0) 22
    have H8 : Hid (w.heap.size + 1 < y1.heap.size ∧ b5 < y1.heap.size) := ⟨K4.lt, K5.lt⟩
    have K4 := K4.alloc (.cells (mk 2 fun _ => 0) 22)
    have K5 := K5.alloc (.cells (mk 2 fun _ => 0) 22)
    have HB : Hid (Below w.heap.size w (y1.alloc (.cells (mk 2 fun _ => 0) 22))) := HB.out.alloc HB.out.size _
    clear hHeld
    generalize y1.alloc (.cells (mk 2 fun _ => 0) 22) = y2 at *
    generalize y1.heap.size = b8 at *
    refine hK.out _ _ K5 (fun hHeld => ?_)
    clear hK K
    try simp only [Act.put, List.setIfInBounds_toArray, List.set_cons_zero, List.set_cons_succ]
    refine wpAnyH_ready (rs := [4]) (by kernel_rfl) (by simp) ?_
    refine AllReadyH.cons rfl (fun K hK => ?_) AllReadyH.nil
    go_simp
    refine (form2_any M _).mono ?_
    rintro e y3 ⟨rfl, hb⟩
    have K4 := K4.below hb K4.lt
    have K5 := K5.below hb K5.lt
    have K8 := K8.below hb K8.lt
    have HB : Hid (Below w.heap.size w y3) := HB.out.trans (hb.mono HB.out.size)
    clear hb hHeld
    go_wp2_with fail
    refine hK.out _ _ K5 (fun hHeld => ?_)
    clear hK K
    try simp only [Act.put, List.setIfInBounds_toArray, List.set_cons_zero, List.set_cons_succ]
    refine wpAnyH_ready (rs := [5]) (by kernel_rfl) (by simp) ?_
    refine AllReadyH.cons rfl (fun K hK => ?_) AllReadyH.nil
    go_simp
    refine (HH.out _).mono ?_
    rintro e y4 ⟨rfl, hb⟩
    have K4 := K4.below hb K4.lt
    have K5 := K5.below hb K5.lt
    have K8 := K8.below hb K8.lt
    have HB : Hid (Below w.heap.size w y4) := HB.out.trans (hb.mono HB.out.size)
    clear hb hHeld
    go_wp2_with fail
    refine hK.out _ _ K5 (fun hHeld => ?_)
    clear hK K
    try simp only [Act.put, List.setIfInBounds_toArray, List.set_cons_zero, List.set_cons_succ]
    refine wpAnyH_take (i := 6) (oi := { dst := some 16, op := _, type := _, pos := _, after := _, guard := _ }) (v := .tuple #[.int .i64 TT, .agg (mk 2 CC), .bool OO]) rfl (by kernel_rfl) (by kernel_rfl) (by kernel_rfl) (fun _ _ _ h => h) (Or.inl ⟨by rfl, by intro w hSw; clear hSw; go_simp; (try with_reducible rfl)⟩) (by assumption) ?_
    try simp only [Act.put, List.setIfInBounds_toArray, List.set_cons_zero, List.set_cons_succ]
    refine wpAnyH_take (i := 7) (oi := { dst := some 23, op := _, type := _, pos := _, after := _, guard := _ }) (v := .int .i64 TT) rfl (by kernel_rfl) (by kernel_rfl) (by kernel_rfl) (fun _ _ _ h => h) (Or.inl ⟨by rfl, by intro w hSw; clear hSw; go_simp; (try with_reducible rfl)⟩) (by assumption) ?_
    try simp only [Act.put, List.setIfInBounds_toArray, List.set_cons_zero, List.set_cons_succ]
    refine wpAnyH_take (i := 8) (oi := { dst := some 24, op := _, type := _, pos := _, after := _, guard := _ }) (v := .agg (mk 2 CC)) rfl (by kernel_rfl) (by kernel_rfl) (by kernel_rfl) (fun _ _ _ h => h) (Or.inl ⟨by rfl, by intro w hSw; clear hSw; go_simp; (try with_reducible rfl)⟩) (by assumption) ?_
    try simp only [Act.put, List.setIfInBounds_toArray, List.set_cons_zero, List.set_cons_succ]
    refine wpAnyH_take (i := 9) (oi := { dst := some 25, op := _, type := _, pos := _, after := _, guard := _ }) (v := .bool OO) rfl (by kernel_rfl) (by kernel_rfl) (by kernel_rfl) (fun _ _ _ h => h) (Or.inl ⟨by rfl, by intro w hSw; clear hSw; go_simp; (try with_reducible rfl)⟩) (by assumption) ?_
    try simp only [Act.put, List.setIfInBounds_toArray, List.set_cons_zero, List.set_cons_succ]
    refine wpAnyH_take (i := 11) (oi := { dst := some 7, op := _, type := _, pos := _, after := _, guard := _ }) (v := .int .i64 TT) rfl (by kernel_rfl) (by kernel_rfl) (by kernel_rfl) (fun _ _ _ h => h) (Or.inl ⟨by rfl, by intro w hSw; clear hSw; go_simp; (try with_reducible rfl)⟩) (by assumption) ?_
    try simp only [Act.put, List.setIfInBounds_toArray, List.set_cons_zero, List.set_cons_succ]
    refine wpAnyH_ready (rs := [12]) (by kernel_rfl) (by simp) ?_
    refine AllReadyH.cons rfl (fun K hK => ?_) AllReadyH.nil
    rw [if_pos (by rfl)]
    refine wp_stC2 (off := 0) (g := CC) K8 (by omega) rfl rfl rfl ?_
    rw [HPT.out]
    have K4 := K4.rowOther b8 (mk 2 CC) (by have := H8.out; omega)
    have K5 := K5.rowOther b8 (mk 2 CC) (by have := H8.out; omega)
    have HB : Hid (Below w.heap.size w (y4.setRow b8 (mk 2 CC))) := below_setRow HB.out (by have := H8.out; omega) _
    have K8 := K8.row 2 CC
    generalize y4.setRow b8 (mk 2 CC) = z1 at *
    clear hHeld
    refine hK.out _ _ K5 (fun hHeld => ?_)
    clear hK K
    try simp only [Act.put, List.setIfInBounds_toArray, List.set_cons_zero, List.set_cons_succ]
    refine wpAnyH_take (i := 13) (oi := { dst := some 9, op := _, type := _, pos := _, after := _, guard := _ }) (v := .bool OO) rfl (by kernel_rfl) (by kernel_rfl) (by kernel_rfl) (fun _ _ _ h => h) (Or.inl ⟨by rfl, by intro w hSw; clear hSw; go_simp; (try with_reducible rfl)⟩) (by assumption) ?_
    try simp only [Act.put, List.setIfInBounds_toArray, List.set_cons_zero, List.set_cons_succ]
    refine wpAnyH_done (by kernel_rfl) ?_ _
    clear hHeld
    go_wp2_with (first | ((with_reducible show wpList _ _ _ (Oper.mk _ (Op.load 22 _) _ _ _ _ :: _) _ _); refine loadC (K8) rfl rfl rfl ?_) | ((with_reducible show wpList _ _ _ (Oper.mk _ (Op.store 22 _ _) _ _ _ _ :: _) _ _); refine storeC (K4) rfl rfl rfl rfl ?_))
    try simp only [Act.put, List.setIfInBounds_toArray, List.set_cons_zero, List.set_cons_succ]
    try simp only [Exit.inBlock, Exit.then]
    refine retcC (p := 4) (t := 22) (b := w.heap.size + 1) (f := CC) ?_ ?_ ?_ ?_ ?_
    · exact K4.row 2 CC
    · rfl
    · rfl
    · rfl
    · exact ⟨rfl, below_setRow HB.out (by omega) (mk 2 CC)⟩
  refine AllReadyH.cons rfl (fun K hK => ?_) AllReadyH.nil
  rw [if_pos (by rfl)]
  refine wp_allocC2 rfl ?_
  have K8 := Blk.new y0 2 (fun _ => 0) 22
  have H8 : Hid (w.heap.size + 1 < y0.heap.size ∧ b5 < y0.heap.size) := ⟨K4.lt, K5.lt⟩
  have K4 := K4.alloc (.cells (mk 2 fun _ => 0) 22)
  have K5 := K5.alloc (.cells (mk 2 fun _ => 0) 22)
  have HB : Hid (Below w.heap.size w (y0.alloc (.cells (mk 2 fun _ => 0) 22))) := HB.out.alloc HB.out.size _
  clear hHeld
  generalize y0.alloc (.cells (mk 2 fun _ => 0) 22) = y1 at *
  generalize y0.heap.size = b8 at *
  refine hK.out _ _ K5 (fun hHeld => ?_)
  clear hK K
  try simp only [Act.put, List.setIfInBounds_toArray, List.set_cons_zero, List.set_cons_succ]
  refine wpAnyH_ready (rs := [0]) (by kernel_rfl) (by simp) ?_
  refine AllReadyH.cons rfl (fun K hK => ?_) AllReadyH.nil
  go_simp
  refine (forms_any _).mono ?_
  rintro e y2 ⟨rfl, hb⟩
  have K4 := K4.below hb K4.lt
  have K5 := K5.below hb K5.lt
  have K8 := K8.below hb K8.lt
  have HB : Hid (Below w.heap.size w y2) := HB.out.trans (hb.mono HB.out.size)
  clear hb hHeld
  go_wp2_with fail
  refine hK.out _ _ K5 (fun hHeld => ?_)
  clear hK K
  try simp only [Act.put, List.setIfInBounds_toArray, List.set_cons_zero, List.set_cons_succ]
  refine wpAnyH_take (i := 2) (oi := { dst := some 19, op := _, type := _, pos := _, after := _, guard := _ }) (v := .func (.func 69) #[] #[]) rfl (by kernel_rfl) (by kernel_rfl) (by kernel_rfl) (fun _ _ _ h => h) (Or.inl ⟨by rfl, by intro W hSw; clear hSw; have iF := idxF2 W; go_simp⟩) (by assumption) ?_
  try simp only [Act.put, List.setIfInBounds_toArray, List.set_cons_zero, List.set_cons_succ]
  refine wpAnyH_ready (rs := [4]) (by kernel_rfl) (by simp) ?_
  refine AllReadyH.cons rfl (fun K hK => ?_) AllReadyH.nil
  go_simp
  refine (form2_any M _).mono ?_
  rintro e y3 ⟨rfl, hb⟩
  have K4 := K4.below hb K4.lt
  have K5 := K5.below hb K5.lt
  have K8 := K8.below hb K8.lt
  have HB : Hid (Below w.heap.size w y3) := HB.out.trans (hb.mono HB.out.size)
  clear hb hHeld
  go_wp2_with fail
  refine hK.out _ _ K5 (fun hHeld => ?_)
  clear hK K
  try simp only [Act.put, List.setIfInBounds_toArray, List.set_cons_zero, List.set_cons_succ]
  refine wpAnyH_ready (rs := [5]) (by kernel_rfl) (by simp) ?_
  refine AllReadyH.cons rfl (fun K hK => ?_) AllReadyH.nil
  go_simp
  refine (HH.out _).mono ?_
  rintro e y4 ⟨rfl, hb⟩
  have K4 := K4.below hb K4.lt
  have K5 := K5.below hb K5.lt
  have K8 := K8.below hb K8.lt
  have HB : Hid (Below w.heap.size w y4) := HB.out.trans (hb.mono HB.out.size)
  clear hb hHeld
  go_wp2_with fail
  refine hK.out _ _ K5 (fun hHeld => ?_)
  clear hK K
  try simp only [Act.put, List.setIfInBounds_toArray, List.set_cons_zero, List.set_cons_succ]
  refine wpAnyH_take (i := 6) (oi := { dst := some 16, op := _, type := _, pos := _, after := _, guard := _ }) (v := .tuple #[.int .i64 TT, .agg (mk 2 CC), .bool OO]) rfl (by kernel_rfl) (by kernel_rfl) (by kernel_rfl) (fun _ _ _ h => h) (Or.inl ⟨by rfl, by intro w hSw; clear hSw; go_simp; (try with_reducible rfl)⟩) (by assumption) ?_
  try simp only [Act.put, List.setIfInBounds_toArray, List.set_cons_zero, List.set_cons_succ]
  refine wpAnyH_take (i := 7) (oi := { dst := some 23, op := _, type := _, pos := _, after := _, guard := _ }) (v := .int .i64 TT) rfl (by kernel_rfl) (by kernel_rfl) (by kernel_rfl) (fun _ _ _ h => h) (Or.inl ⟨by rfl, by intro w hSw; clear hSw; go_simp; (try with_reducible rfl)⟩) (by assumption) ?_
  try simp only [Act.put, List.setIfInBounds_toArray, List.set_cons_zero, List.set_cons_succ]
  refine wpAnyH_take (i := 8) (oi := { dst := some 24, op := _, type := _, pos := _, after := _, guard := _ }) (v := .agg (mk 2 CC)) rfl (by kernel_rfl) (by kernel_rfl) (by kernel_rfl) (fun _ _ _ h => h) (Or.inl ⟨by rfl, by intro w hSw; clear hSw; go_simp; (try with_reducible rfl)⟩) (by assumption) ?_
  try simp only [Act.put, List.setIfInBounds_toArray, List.set_cons_zero, List.set_cons_succ]
  refine wpAnyH_take (i := 9) (oi := { dst := some 25, op := _, type := _, pos := _, after := _, guard := _ }) (v := .bool OO) rfl (by kernel_rfl) (by kernel_rfl) (by kernel_rfl) (fun _ _ _ h => h) (Or.inl ⟨by rfl, by intro w hSw; clear hSw; go_simp; (try with_reducible rfl)⟩) (by assumption) ?_
  try simp only [Act.put, List.setIfInBounds_toArray, List.set_cons_zero, List.set_cons_succ]
  refine wpAnyH_take (i := 11) (oi := { dst := some 7, op := _, type := _, pos := _, after := _, guard := _ }) (v := .int .i64 TT) rfl (by kernel_rfl) (by kernel_rfl) (by kernel_rfl) (fun _ _ _ h => h) (Or.inl ⟨by rfl, by intro w hSw; clear hSw; go_simp; (try with_reducible rfl)⟩) (by assumption) ?_
  try simp only [Act.put, List.setIfInBounds_toArray, List.set_cons_zero, List.set_cons_succ]
  refine wpAnyH_ready (rs := [12]) (by kernel_rfl) (by simp) ?_
  refine AllReadyH.cons rfl (fun K hK => ?_) AllReadyH.nil
  rw [if_pos (by rfl)]
  refine wp_stC2 (off := 0) (g := CC) K8 (by omega) rfl rfl rfl ?_
  rw [HPT.out]
  have K4 := K4.rowOther b8 (mk 2 CC) (by have := H8.out; omega)
  have K5 := K5.rowOther b8 (mk 2 CC) (by have := H8.out; omega)
  have HB : Hid (Below w.heap.size w (y4.setRow b8 (mk 2 CC))) := below_setRow HB.out (by have := H8.out; omega) _
  have K8 := K8.row 2 CC
  generalize y4.setRow b8 (mk 2 CC) = z1 at *
  clear hHeld
  refine hK.out _ _ K5 (fun hHeld => ?_)
  clear hK K
  try simp only [Act.put, List.setIfInBounds_toArray, List.set_cons_zero, List.set_cons_succ]
  refine wpAnyH_take (i := 13) (oi := { dst := some 9, op := _, type := _, pos := _, after := _, guard := _ }) (v := .bool OO) rfl (by kernel_rfl) (by kernel_rfl) (by kernel_rfl) (fun _ _ _ h => h) (Or.inl ⟨by rfl, by intro w hSw; clear hSw; go_simp; (try with_reducible rfl)⟩) (by assumption) ?_
  try simp only [Act.put, List.setIfInBounds_toArray, List.set_cons_zero, List.set_cons_succ]
  refine wpAnyH_done (by kernel_rfl) ?_ _
  clear hHeld
  go_wp2_with (first | ((with_reducible show wpList _ _ _ (Oper.mk _ (Op.load 22 _) _ _ _ _ :: _) _ _); refine loadC (K8) rfl rfl rfl ?_) | ((with_reducible show wpList _ _ _ (Oper.mk _ (Op.store 22 _ _) _ _ _ _ :: _) _ _); refine storeC (K4) rfl rfl rfl rfl ?_))
  try simp only [Act.put, List.setIfInBounds_toArray, List.set_cons_zero, List.set_cons_succ]
  try simp only [Exit.inBlock, Exit.then]
  refine retcC (p := 4) (t := 22) (b := w.heap.size + 1) (f := CC) ?_ ?_ ?_ ?_ ?_
  · exact K4.row 2 CC
  · rfl
  · rfl
  · rfl
  · exact ⟨rfl, below_setRow HB.out (by omega) (mk 2 CC)⟩
set_option maxHeartbeats 4000000 in
set_option maxRecDepth 20000 in
theorem formCell3_any (R C : Nat) (hR : R < 4) (hC : C < 4) (w : World) :
    Calls Try.prog 48 #[.agg (mk 2 (two (R : Int) (C : Int))), .int .i64 3] w fun e w' => e = .returned (.agg (mk 2 (cellF (fcP (R * 4 + C) 3)))) ∧ Below w.heap.size w w' := by
  have z16 := zero16
  have z2 := zero2
  have HP := Lib.hid (fun w => putOne R C hR hC w)
  have HH := Lib.hid (fun w => highOne (R * 4 + C) 3 w)
  clear hR hC
  have K2 := (Blk.new w 2 (two (R : Int) (C : Int)) 22).alloc (.cells (mk 2 fun _ => 0) 22)
  have K4 := Blk.new (w.alloc (.cells (mk 2 (two (R : Int) (C : Int))) 22)) 2 (fun _ => 0) 22
  simp only [World.size_alloc] at K4
  have HB := Lib.hid (((Below.refl w.heap.size w).alloc (Nat.le_refl _) (.cells (mk 2 (two (R : Int) (C : Int))) 22)).alloc (by simp) (.cells (mk 2 fun _ => 0) 22))
  generalize hM : upd (fun _ => 0) (R * 4 + C) 1 = M at *
  generalize hiT (formF M 3) = TT at *
  generalize hiO (formF M 3) = OO at *
  generalize cellF (fcP (R * 4 + C) 3) = CC at *
  have HPT : Hid (mk 2 (patch (fun _ => 0) 0 2 CC) = mk 2 CC) := mk_congr fun j hj => by unfold patch; rw [if_pos (by omega), Nat.sub_zero]
  clear hM
  go_enter Try.func48, Try.ntmps48
  go_wp2_with ((with_reducible show wpList _ _ _ (Oper.mk _ (Op.load 22 _) _ _ _ _ :: _) _ _); refine loadC (K2) rfl rfl rfl ?_)
  refine (HP.out _).mono ?_
  rintro e w2 ⟨rfl, hb⟩
  have hlt := K4.lt
  have K4 := K4.below hb K4.lt
  have H5 : Hid (w.heap.size + 1 < w2.heap.size) := K4.lt
  have HB := HB.out.trans (hb.mono HB.out.size)
  have HB : Hid (Below w.heap.size w (w2.alloc (.cells (mk 16 M) 35))) := HB.alloc HB.size _
  have K4 := K4.alloc (.cells (mk 16 M) 35)
  have K5 := Blk.new w2 16 M 35
  clear hb HP K2 hlt
  go_wp2_with fail
  generalize w2.alloc (.cells (mk 16 M) 35) = w3 at *
  generalize w2.heap.size = b5 at *
  refine wp_region_held_drew (S := fun W => Blk W b5 16 M 35) (by kernel_rfl) (K5.drew) (fun hHeld => ?_)
  have K4 := K4.drew
  have K5 : Blk w3.drew b5 16 M 35 := K5.drew
  have HB : Hid (Below w.heap.size w w3.drew) := HB.out.drew
  generalize w3.drew = y0 at *
  refine wpAnyH_take (i := 1) (oi := { dst := some 18, op := _, type := _, pos := _, after := _, guard := _ }) (v := .int .i64 3) rfl (by kernel_rfl) (by kernel_rfl) (by kernel_rfl) (fun _ _ _ h => h) (Or.inl ⟨by rfl, by intro w hSw; clear hSw; go_simp; (try with_reducible rfl)⟩) (by assumption) ?_
  try simp only [Act.put, List.setIfInBounds_toArray, List.set_cons_zero, List.set_cons_succ]
  refine wpAnyH_take (i := 3) (oi := { dst := some 20, op := _, type := _, pos := _, after := _, guard := _ }) (v := .agg (mk 16 M)) rfl (by kernel_rfl) (by kernel_rfl) (by kernel_rfl) (fun _ _ _ h => h) (Or.inl ⟨by rfl, fun _ q => execB q rfl rfl⟩) (by assumption) ?_
  try simp only [Act.put, List.setIfInBounds_toArray, List.set_cons_zero, List.set_cons_succ]
  refine wpAnyH_ready (rs := [0, 10]) (by kernel_rfl) (by simp) ?_
  refine AllReadyH.cons rfl (fun K hK => ?_) ?_
  · go_simp
    refine (forms_any _).mono ?_
    rintro e y1 ⟨rfl, hb⟩
    have K4 := K4.below hb K4.lt
    have K5 := K5.below hb K5.lt
    have HB : Hid (Below w.heap.size w y1) := HB.out.trans (hb.mono HB.out.size)
    clear hb hHeld
    go_wp2_with fail
    refine hK.out _ _ K5 (fun hHeld => ?_)
    clear hK K
    try simp only [Act.put, List.setIfInBounds_toArray, List.set_cons_zero, List.set_cons_succ]
    refine wpAnyH_take (i := 2) (oi := { dst := some 19, op := _, type := _, pos := _, after := _, guard := _ }) (v := .func (.func 70) #[] #[]) rfl (by kernel_rfl) (by kernel_rfl) (by kernel_rfl) (fun _ _ _ h => h) (Or.inl ⟨by rfl, by intro W hSw; clear hSw; have iF := idxF3 W; go_simp⟩) (by assumption) ?_
    try simp only [Act.put, List.setIfInBounds_toArray, List.set_cons_zero, List.set_cons_succ]
    refine wpAnyH_ready (rs := [4, 10]) (by kernel_rfl) (by simp) ?_
    refine AllReadyH.cons rfl (fun K hK => ?_) ?_
    · go_simp
      refine (form3_any M _).mono ?_
      rintro e y2 ⟨rfl, hb⟩
      have K4 := K4.below hb K4.lt
      have K5 := K5.below hb K5.lt
      have HB : Hid (Below w.heap.size w y2) := HB.out.trans (hb.mono HB.out.size)
      clear hb hHeld
      go_wp2_with fail
      refine hK.out _ _ K5 (fun hHeld => ?_)
      clear hK K
      try simp only [Act.put, List.setIfInBounds_toArray, List.set_cons_zero, List.set_cons_succ]
      refine wpAnyH_ready (rs := [5, 10]) (by kernel_rfl) (by simp) ?_
      refine AllReadyH.cons rfl (fun K hK => ?_) ?_
      · go_simp
        refine (HH.out _).mono ?_
        rintro e y3 ⟨rfl, hb⟩
        have K4 := K4.below hb K4.lt
        have K5 := K5.below hb K5.lt
        have HB : Hid (Below w.heap.size w y3) := HB.out.trans (hb.mono HB.out.size)
        clear hb hHeld
        go_wp2_with fail
        refine hK.out _ _ K5 (fun hHeld => ?_)
        clear hK K
        try simp only [Act.put, List.setIfInBounds_toArray, List.set_cons_zero, List.set_cons_succ]
        refine wpAnyH_take (i := 6) (oi := { dst := some 16, op := _, type := _, pos := _, after := _, guard := _ }) (v := .tuple #[.int .i64 TT, .agg (mk 2 CC), .bool OO]) rfl (by kernel_rfl) (by kernel_rfl) (by kernel_rfl) (fun _ _ _ h => h) (Or.inl ⟨by rfl, by intro w hSw; clear hSw; go_simp; (try with_reducible rfl)⟩) (by assumption) ?_
        try simp only [Act.put, List.setIfInBounds_toArray, List.set_cons_zero, List.set_cons_succ]
        refine wpAnyH_take (i := 7) (oi := { dst := some 23, op := _, type := _, pos := _, after := _, guard := _ }) (v := .int .i64 TT) rfl (by kernel_rfl) (by kernel_rfl) (by kernel_rfl) (fun _ _ _ h => h) (Or.inl ⟨by rfl, by intro w hSw; clear hSw; go_simp; (try with_reducible rfl)⟩) (by assumption) ?_
        try simp only [Act.put, List.setIfInBounds_toArray, List.set_cons_zero, List.set_cons_succ]
        refine wpAnyH_take (i := 8) (oi := { dst := some 24, op := _, type := _, pos := _, after := _, guard := _ }) (v := .agg (mk 2 CC)) rfl (by kernel_rfl) (by kernel_rfl) (by kernel_rfl) (fun _ _ _ h => h) (Or.inl ⟨by rfl, by intro w hSw; clear hSw; go_simp; (try with_reducible rfl)⟩) (by assumption) ?_
        try simp only [Act.put, List.setIfInBounds_toArray, List.set_cons_zero, List.set_cons_succ]
        refine wpAnyH_take (i := 9) (oi := { dst := some 25, op := _, type := _, pos := _, after := _, guard := _ }) (v := .bool OO) rfl (by kernel_rfl) (by kernel_rfl) (by kernel_rfl) (fun _ _ _ h => h) (Or.inl ⟨by rfl, by intro w hSw; clear hSw; go_simp; (try with_reducible rfl)⟩) (by assumption) ?_
        try simp only [Act.put, List.setIfInBounds_toArray, List.set_cons_zero, List.set_cons_succ]
        refine wpAnyH_ready (rs := [10]) (by kernel_rfl) (by simp) ?_
        refine AllReadyH.cons rfl (fun K hK => ?_) AllReadyH.nil
        rw [if_pos (by rfl)]
        refine wp_allocC2 rfl ?_
        have K8 := Blk.new y3 2 (fun _ => 0) 22
        have H8 : Hid (w.heap.size + 1 < y3.heap.size ∧ b5 < y3.heap.size) := ⟨K4.lt, K5.lt⟩
        have K4 := K4.alloc (.cells (mk 2 fun _ => 0) 22)
        have K5 := K5.alloc (.cells (mk 2 fun _ => 0) 22)
        have HB : Hid (Below w.heap.size w (y3.alloc (.cells (mk 2 fun _ => 0) 22))) := HB.out.alloc HB.out.size _
        clear hHeld
        generalize y3.alloc (.cells (mk 2 fun _ => 0) 22) = y4 at *
        generalize y3.heap.size = b8 at *
        refine hK.out _ _ K5 (fun hHeld => ?_)
        clear hK K
        try simp only [Act.put, List.setIfInBounds_toArray, List.set_cons_zero, List.set_cons_succ]
        refine wpAnyH_take (i := 11) (oi := { dst := some 7, op := _, type := _, pos := _, after := _, guard := _ }) (v := .int .i64 TT) rfl (by kernel_rfl) (by kernel_rfl) (by kernel_rfl) (fun _ _ _ h => h) (Or.inl ⟨by rfl, by intro w hSw; clear hSw; go_simp; (try with_reducible rfl)⟩) (by assumption) ?_
        try simp only [Act.put, List.setIfInBounds_toArray, List.set_cons_zero, List.set_cons_succ]
        refine wpAnyH_ready (rs := [12]) (by kernel_rfl) (by simp) ?_
        refine AllReadyH.cons rfl (fun K hK => ?_) AllReadyH.nil
        rw [if_pos (by rfl)]
        refine wp_stC2 (off := 0) (g := CC) K8 (by omega) rfl rfl rfl ?_
        rw [HPT.out]
        have K4 := K4.rowOther b8 (mk 2 CC) (by have := H8.out; omega)
        have K5 := K5.rowOther b8 (mk 2 CC) (by have := H8.out; omega)
        have HB : Hid (Below w.heap.size w (y4.setRow b8 (mk 2 CC))) := below_setRow HB.out (by have := H8.out; omega) _
        have K8 := K8.row 2 CC
        generalize y4.setRow b8 (mk 2 CC) = z1 at *
        clear hHeld
        refine hK.out _ _ K5 (fun hHeld => ?_)
        clear hK K
        try simp only [Act.put, List.setIfInBounds_toArray, List.set_cons_zero, List.set_cons_succ]
        refine wpAnyH_take (i := 13) (oi := { dst := some 9, op := _, type := _, pos := _, after := _, guard := _ }) (v := .bool OO) rfl (by kernel_rfl) (by kernel_rfl) (by kernel_rfl) (fun _ _ _ h => h) (Or.inl ⟨by rfl, by intro w hSw; clear hSw; go_simp; (try with_reducible rfl)⟩) (by assumption) ?_
        try simp only [Act.put, List.setIfInBounds_toArray, List.set_cons_zero, List.set_cons_succ]
        refine wpAnyH_done (by kernel_rfl) ?_ _
        clear hHeld
        go_wp2_with (first | ((with_reducible show wpList _ _ _ (Oper.mk _ (Op.load 22 _) _ _ _ _ :: _) _ _); refine loadC (K8) rfl rfl rfl ?_) | ((with_reducible show wpList _ _ _ (Oper.mk _ (Op.store 22 _ _) _ _ _ _ :: _) _ _); refine storeC (K4) rfl rfl rfl rfl ?_))
        try simp only [Act.put, List.setIfInBounds_toArray, List.set_cons_zero, List.set_cons_succ]
        try simp only [Exit.inBlock, Exit.then]
        refine retcC (p := 4) (t := 22) (b := w.heap.size + 1) (f := CC) ?_ ?_ ?_ ?_ ?_
        · exact K4.row 2 CC
        · rfl
        · rfl
        · rfl
        · exact ⟨rfl, below_setRow HB.out (by omega) (mk 2 CC)⟩
      refine AllReadyH.cons rfl (fun K hK => ?_) AllReadyH.nil
      rw [if_pos (by rfl)]
      refine wp_allocC2 rfl ?_
      have K8 := Blk.new y2 2 (fun _ => 0) 22
      have H8 : Hid (w.heap.size + 1 < y2.heap.size ∧ b5 < y2.heap.size) := ⟨K4.lt, K5.lt⟩
      have K4 := K4.alloc (.cells (mk 2 fun _ => 0) 22)
      have K5 := K5.alloc (.cells (mk 2 fun _ => 0) 22)
      have HB : Hid (Below w.heap.size w (y2.alloc (.cells (mk 2 fun _ => 0) 22))) := HB.out.alloc HB.out.size _
      clear hHeld
      generalize y2.alloc (.cells (mk 2 fun _ => 0) 22) = y3 at *
      generalize y2.heap.size = b8 at *
      refine hK.out _ _ K5 (fun hHeld => ?_)
      clear hK K
      try simp only [Act.put, List.setIfInBounds_toArray, List.set_cons_zero, List.set_cons_succ]
      refine wpAnyH_ready (rs := [5]) (by kernel_rfl) (by simp) ?_
      refine AllReadyH.cons rfl (fun K hK => ?_) AllReadyH.nil
      go_simp
      refine (HH.out _).mono ?_
      rintro e y4 ⟨rfl, hb⟩
      have K4 := K4.below hb K4.lt
      have K5 := K5.below hb K5.lt
      have K8 := K8.below hb K8.lt
      have HB : Hid (Below w.heap.size w y4) := HB.out.trans (hb.mono HB.out.size)
      clear hb hHeld
      go_wp2_with fail
      refine hK.out _ _ K5 (fun hHeld => ?_)
      clear hK K
      try simp only [Act.put, List.setIfInBounds_toArray, List.set_cons_zero, List.set_cons_succ]
      refine wpAnyH_take (i := 6) (oi := { dst := some 16, op := _, type := _, pos := _, after := _, guard := _ }) (v := .tuple #[.int .i64 TT, .agg (mk 2 CC), .bool OO]) rfl (by kernel_rfl) (by kernel_rfl) (by kernel_rfl) (fun _ _ _ h => h) (Or.inl ⟨by rfl, by intro w hSw; clear hSw; go_simp; (try with_reducible rfl)⟩) (by assumption) ?_
      try simp only [Act.put, List.setIfInBounds_toArray, List.set_cons_zero, List.set_cons_succ]
      refine wpAnyH_take (i := 7) (oi := { dst := some 23, op := _, type := _, pos := _, after := _, guard := _ }) (v := .int .i64 TT) rfl (by kernel_rfl) (by kernel_rfl) (by kernel_rfl) (fun _ _ _ h => h) (Or.inl ⟨by rfl, by intro w hSw; clear hSw; go_simp; (try with_reducible rfl)⟩) (by assumption) ?_
      try simp only [Act.put, List.setIfInBounds_toArray, List.set_cons_zero, List.set_cons_succ]
      refine wpAnyH_take (i := 8) (oi := { dst := some 24, op := _, type := _, pos := _, after := _, guard := _ }) (v := .agg (mk 2 CC)) rfl (by kernel_rfl) (by kernel_rfl) (by kernel_rfl) (fun _ _ _ h => h) (Or.inl ⟨by rfl, by intro w hSw; clear hSw; go_simp; (try with_reducible rfl)⟩) (by assumption) ?_
      try simp only [Act.put, List.setIfInBounds_toArray, List.set_cons_zero, List.set_cons_succ]
      refine wpAnyH_take (i := 9) (oi := { dst := some 25, op := _, type := _, pos := _, after := _, guard := _ }) (v := .bool OO) rfl (by kernel_rfl) (by kernel_rfl) (by kernel_rfl) (fun _ _ _ h => h) (Or.inl ⟨by rfl, by intro w hSw; clear hSw; go_simp; (try with_reducible rfl)⟩) (by assumption) ?_
      try simp only [Act.put, List.setIfInBounds_toArray, List.set_cons_zero, List.set_cons_succ]
      refine wpAnyH_take (i := 11) (oi := { dst := some 7, op := _, type := _, pos := _, after := _, guard := _ }) (v := .int .i64 TT) rfl (by kernel_rfl) (by kernel_rfl) (by kernel_rfl) (fun _ _ _ h => h) (Or.inl ⟨by rfl, by intro w hSw; clear hSw; go_simp; (try with_reducible rfl)⟩) (by assumption) ?_
      try simp only [Act.put, List.setIfInBounds_toArray, List.set_cons_zero, List.set_cons_succ]
      refine wpAnyH_ready (rs := [12]) (by kernel_rfl) (by simp) ?_
      refine AllReadyH.cons rfl (fun K hK => ?_) AllReadyH.nil
      rw [if_pos (by rfl)]
      refine wp_stC2 (off := 0) (g := CC) K8 (by omega) rfl rfl rfl ?_
      rw [HPT.out]
      have K4 := K4.rowOther b8 (mk 2 CC) (by have := H8.out; omega)
      have K5 := K5.rowOther b8 (mk 2 CC) (by have := H8.out; omega)
      have HB : Hid (Below w.heap.size w (y4.setRow b8 (mk 2 CC))) := below_setRow HB.out (by have := H8.out; omega) _
      have K8 := K8.row 2 CC
      generalize y4.setRow b8 (mk 2 CC) = z1 at *
      clear hHeld
      refine hK.out _ _ K5 (fun hHeld => ?_)
      clear hK K
      try simp only [Act.put, List.setIfInBounds_toArray, List.set_cons_zero, List.set_cons_succ]
      refine wpAnyH_take (i := 13) (oi := { dst := some 9, op := _, type := _, pos := _, after := _, guard := _ }) (v := .bool OO) rfl (by kernel_rfl) (by kernel_rfl) (by kernel_rfl) (fun _ _ _ h => h) (Or.inl ⟨by rfl, by intro w hSw; clear hSw; go_simp; (try with_reducible rfl)⟩) (by assumption) ?_
      try simp only [Act.put, List.setIfInBounds_toArray, List.set_cons_zero, List.set_cons_succ]
      refine wpAnyH_done (by kernel_rfl) ?_ _
      clear hHeld
      go_wp2_with (first | ((with_reducible show wpList _ _ _ (Oper.mk _ (Op.load 22 _) _ _ _ _ :: _) _ _); refine loadC (K8) rfl rfl rfl ?_) | ((with_reducible show wpList _ _ _ (Oper.mk _ (Op.store 22 _ _) _ _ _ _ :: _) _ _); refine storeC (K4) rfl rfl rfl rfl ?_))
      try simp only [Act.put, List.setIfInBounds_toArray, List.set_cons_zero, List.set_cons_succ]
      try simp only [Exit.inBlock, Exit.then]
      refine retcC (p := 4) (t := 22) (b := w.heap.size + 1) (f := CC) ?_ ?_ ?_ ?_ ?_
      · exact K4.row 2 CC
      · rfl
      · rfl
      · rfl
      · exact ⟨rfl, below_setRow HB.out (by omega) (mk 2 CC)⟩
    refine AllReadyH.cons rfl (fun K hK => ?_) AllReadyH.nil
    rw [if_pos (by rfl)]
    refine wp_allocC2 rfl ?_
    have K8 := Blk.new y1 2 (fun _ => 0) 22
    have H8 : Hid (w.heap.size + 1 < y1.heap.size ∧ b5 < y1.heap.size) := ⟨K4.lt, K5.lt⟩
    have K4 := K4.alloc (.cells (mk 2 fun _ => 0) 22)
    have K5 := K5.alloc (.cells (mk 2 fun _ => 0) 22)
    have HB : Hid (Below w.heap.size w (y1.alloc (.cells (mk 2 fun _ => 0) 22))) := HB.out.alloc HB.out.size _
    clear hHeld
    generalize y1.alloc (.cells (mk 2 fun _ => 0) 22) = y2 at *
    generalize y1.heap.size = b8 at *
    refine hK.out _ _ K5 (fun hHeld => ?_)
    clear hK K
    try simp only [Act.put, List.setIfInBounds_toArray, List.set_cons_zero, List.set_cons_succ]
    refine wpAnyH_ready (rs := [4]) (by kernel_rfl) (by simp) ?_
    refine AllReadyH.cons rfl (fun K hK => ?_) AllReadyH.nil
    go_simp
    refine (form3_any M _).mono ?_
    rintro e y3 ⟨rfl, hb⟩
    have K4 := K4.below hb K4.lt
    have K5 := K5.below hb K5.lt
    have K8 := K8.below hb K8.lt
    have HB : Hid (Below w.heap.size w y3) := HB.out.trans (hb.mono HB.out.size)
    clear hb hHeld
    go_wp2_with fail
    refine hK.out _ _ K5 (fun hHeld => ?_)
    clear hK K
    try simp only [Act.put, List.setIfInBounds_toArray, List.set_cons_zero, List.set_cons_succ]
    refine wpAnyH_ready (rs := [5]) (by kernel_rfl) (by simp) ?_
    refine AllReadyH.cons rfl (fun K hK => ?_) AllReadyH.nil
    go_simp
    refine (HH.out _).mono ?_
    rintro e y4 ⟨rfl, hb⟩
    have K4 := K4.below hb K4.lt
    have K5 := K5.below hb K5.lt
    have K8 := K8.below hb K8.lt
    have HB : Hid (Below w.heap.size w y4) := HB.out.trans (hb.mono HB.out.size)
    clear hb hHeld
    go_wp2_with fail
    refine hK.out _ _ K5 (fun hHeld => ?_)
    clear hK K
    try simp only [Act.put, List.setIfInBounds_toArray, List.set_cons_zero, List.set_cons_succ]
    refine wpAnyH_take (i := 6) (oi := { dst := some 16, op := _, type := _, pos := _, after := _, guard := _ }) (v := .tuple #[.int .i64 TT, .agg (mk 2 CC), .bool OO]) rfl (by kernel_rfl) (by kernel_rfl) (by kernel_rfl) (fun _ _ _ h => h) (Or.inl ⟨by rfl, by intro w hSw; clear hSw; go_simp; (try with_reducible rfl)⟩) (by assumption) ?_
    try simp only [Act.put, List.setIfInBounds_toArray, List.set_cons_zero, List.set_cons_succ]
    refine wpAnyH_take (i := 7) (oi := { dst := some 23, op := _, type := _, pos := _, after := _, guard := _ }) (v := .int .i64 TT) rfl (by kernel_rfl) (by kernel_rfl) (by kernel_rfl) (fun _ _ _ h => h) (Or.inl ⟨by rfl, by intro w hSw; clear hSw; go_simp; (try with_reducible rfl)⟩) (by assumption) ?_
    try simp only [Act.put, List.setIfInBounds_toArray, List.set_cons_zero, List.set_cons_succ]
    refine wpAnyH_take (i := 8) (oi := { dst := some 24, op := _, type := _, pos := _, after := _, guard := _ }) (v := .agg (mk 2 CC)) rfl (by kernel_rfl) (by kernel_rfl) (by kernel_rfl) (fun _ _ _ h => h) (Or.inl ⟨by rfl, by intro w hSw; clear hSw; go_simp; (try with_reducible rfl)⟩) (by assumption) ?_
    try simp only [Act.put, List.setIfInBounds_toArray, List.set_cons_zero, List.set_cons_succ]
    refine wpAnyH_take (i := 9) (oi := { dst := some 25, op := _, type := _, pos := _, after := _, guard := _ }) (v := .bool OO) rfl (by kernel_rfl) (by kernel_rfl) (by kernel_rfl) (fun _ _ _ h => h) (Or.inl ⟨by rfl, by intro w hSw; clear hSw; go_simp; (try with_reducible rfl)⟩) (by assumption) ?_
    try simp only [Act.put, List.setIfInBounds_toArray, List.set_cons_zero, List.set_cons_succ]
    refine wpAnyH_take (i := 11) (oi := { dst := some 7, op := _, type := _, pos := _, after := _, guard := _ }) (v := .int .i64 TT) rfl (by kernel_rfl) (by kernel_rfl) (by kernel_rfl) (fun _ _ _ h => h) (Or.inl ⟨by rfl, by intro w hSw; clear hSw; go_simp; (try with_reducible rfl)⟩) (by assumption) ?_
    try simp only [Act.put, List.setIfInBounds_toArray, List.set_cons_zero, List.set_cons_succ]
    refine wpAnyH_ready (rs := [12]) (by kernel_rfl) (by simp) ?_
    refine AllReadyH.cons rfl (fun K hK => ?_) AllReadyH.nil
    rw [if_pos (by rfl)]
    refine wp_stC2 (off := 0) (g := CC) K8 (by omega) rfl rfl rfl ?_
    rw [HPT.out]
    have K4 := K4.rowOther b8 (mk 2 CC) (by have := H8.out; omega)
    have K5 := K5.rowOther b8 (mk 2 CC) (by have := H8.out; omega)
    have HB : Hid (Below w.heap.size w (y4.setRow b8 (mk 2 CC))) := below_setRow HB.out (by have := H8.out; omega) _
    have K8 := K8.row 2 CC
    generalize y4.setRow b8 (mk 2 CC) = z1 at *
    clear hHeld
    refine hK.out _ _ K5 (fun hHeld => ?_)
    clear hK K
    try simp only [Act.put, List.setIfInBounds_toArray, List.set_cons_zero, List.set_cons_succ]
    refine wpAnyH_take (i := 13) (oi := { dst := some 9, op := _, type := _, pos := _, after := _, guard := _ }) (v := .bool OO) rfl (by kernel_rfl) (by kernel_rfl) (by kernel_rfl) (fun _ _ _ h => h) (Or.inl ⟨by rfl, by intro w hSw; clear hSw; go_simp; (try with_reducible rfl)⟩) (by assumption) ?_
    try simp only [Act.put, List.setIfInBounds_toArray, List.set_cons_zero, List.set_cons_succ]
    refine wpAnyH_done (by kernel_rfl) ?_ _
    clear hHeld
    go_wp2_with (first | ((with_reducible show wpList _ _ _ (Oper.mk _ (Op.load 22 _) _ _ _ _ :: _) _ _); refine loadC (K8) rfl rfl rfl ?_) | ((with_reducible show wpList _ _ _ (Oper.mk _ (Op.store 22 _ _) _ _ _ _ :: _) _ _); refine storeC (K4) rfl rfl rfl rfl ?_))
    try simp only [Act.put, List.setIfInBounds_toArray, List.set_cons_zero, List.set_cons_succ]
    try simp only [Exit.inBlock, Exit.then]
    refine retcC (p := 4) (t := 22) (b := w.heap.size + 1) (f := CC) ?_ ?_ ?_ ?_ ?_
    · exact K4.row 2 CC
    · rfl
    · rfl
    · rfl
    · exact ⟨rfl, below_setRow HB.out (by omega) (mk 2 CC)⟩
  refine AllReadyH.cons rfl (fun K hK => ?_) AllReadyH.nil
  rw [if_pos (by rfl)]
  refine wp_allocC2 rfl ?_
  have K8 := Blk.new y0 2 (fun _ => 0) 22
  have H8 : Hid (w.heap.size + 1 < y0.heap.size ∧ b5 < y0.heap.size) := ⟨K4.lt, K5.lt⟩
  have K4 := K4.alloc (.cells (mk 2 fun _ => 0) 22)
  have K5 := K5.alloc (.cells (mk 2 fun _ => 0) 22)
  have HB : Hid (Below w.heap.size w (y0.alloc (.cells (mk 2 fun _ => 0) 22))) := HB.out.alloc HB.out.size _
  clear hHeld
  generalize y0.alloc (.cells (mk 2 fun _ => 0) 22) = y1 at *
  generalize y0.heap.size = b8 at *
  refine hK.out _ _ K5 (fun hHeld => ?_)
  clear hK K
  try simp only [Act.put, List.setIfInBounds_toArray, List.set_cons_zero, List.set_cons_succ]
  refine wpAnyH_ready (rs := [0]) (by kernel_rfl) (by simp) ?_
  refine AllReadyH.cons rfl (fun K hK => ?_) AllReadyH.nil
  go_simp
  refine (forms_any _).mono ?_
  rintro e y2 ⟨rfl, hb⟩
  have K4 := K4.below hb K4.lt
  have K5 := K5.below hb K5.lt
  have K8 := K8.below hb K8.lt
  have HB : Hid (Below w.heap.size w y2) := HB.out.trans (hb.mono HB.out.size)
  clear hb hHeld
  go_wp2_with fail
  refine hK.out _ _ K5 (fun hHeld => ?_)
  clear hK K
  try simp only [Act.put, List.setIfInBounds_toArray, List.set_cons_zero, List.set_cons_succ]
  refine wpAnyH_take (i := 2) (oi := { dst := some 19, op := _, type := _, pos := _, after := _, guard := _ }) (v := .func (.func 70) #[] #[]) rfl (by kernel_rfl) (by kernel_rfl) (by kernel_rfl) (fun _ _ _ h => h) (Or.inl ⟨by rfl, by intro W hSw; clear hSw; have iF := idxF3 W; go_simp⟩) (by assumption) ?_
  try simp only [Act.put, List.setIfInBounds_toArray, List.set_cons_zero, List.set_cons_succ]
  refine wpAnyH_ready (rs := [4]) (by kernel_rfl) (by simp) ?_
  refine AllReadyH.cons rfl (fun K hK => ?_) AllReadyH.nil
  go_simp
  refine (form3_any M _).mono ?_
  rintro e y3 ⟨rfl, hb⟩
  have K4 := K4.below hb K4.lt
  have K5 := K5.below hb K5.lt
  have K8 := K8.below hb K8.lt
  have HB : Hid (Below w.heap.size w y3) := HB.out.trans (hb.mono HB.out.size)
  clear hb hHeld
  go_wp2_with fail
  refine hK.out _ _ K5 (fun hHeld => ?_)
  clear hK K
  try simp only [Act.put, List.setIfInBounds_toArray, List.set_cons_zero, List.set_cons_succ]
  refine wpAnyH_ready (rs := [5]) (by kernel_rfl) (by simp) ?_
  refine AllReadyH.cons rfl (fun K hK => ?_) AllReadyH.nil
  go_simp
  refine (HH.out _).mono ?_
  rintro e y4 ⟨rfl, hb⟩
  have K4 := K4.below hb K4.lt
  have K5 := K5.below hb K5.lt
  have K8 := K8.below hb K8.lt
  have HB : Hid (Below w.heap.size w y4) := HB.out.trans (hb.mono HB.out.size)
  clear hb hHeld
  go_wp2_with fail
  refine hK.out _ _ K5 (fun hHeld => ?_)
  clear hK K
  try simp only [Act.put, List.setIfInBounds_toArray, List.set_cons_zero, List.set_cons_succ]
  refine wpAnyH_take (i := 6) (oi := { dst := some 16, op := _, type := _, pos := _, after := _, guard := _ }) (v := .tuple #[.int .i64 TT, .agg (mk 2 CC), .bool OO]) rfl (by kernel_rfl) (by kernel_rfl) (by kernel_rfl) (fun _ _ _ h => h) (Or.inl ⟨by rfl, by intro w hSw; clear hSw; go_simp; (try with_reducible rfl)⟩) (by assumption) ?_
  try simp only [Act.put, List.setIfInBounds_toArray, List.set_cons_zero, List.set_cons_succ]
  refine wpAnyH_take (i := 7) (oi := { dst := some 23, op := _, type := _, pos := _, after := _, guard := _ }) (v := .int .i64 TT) rfl (by kernel_rfl) (by kernel_rfl) (by kernel_rfl) (fun _ _ _ h => h) (Or.inl ⟨by rfl, by intro w hSw; clear hSw; go_simp; (try with_reducible rfl)⟩) (by assumption) ?_
  try simp only [Act.put, List.setIfInBounds_toArray, List.set_cons_zero, List.set_cons_succ]
  refine wpAnyH_take (i := 8) (oi := { dst := some 24, op := _, type := _, pos := _, after := _, guard := _ }) (v := .agg (mk 2 CC)) rfl (by kernel_rfl) (by kernel_rfl) (by kernel_rfl) (fun _ _ _ h => h) (Or.inl ⟨by rfl, by intro w hSw; clear hSw; go_simp; (try with_reducible rfl)⟩) (by assumption) ?_
  try simp only [Act.put, List.setIfInBounds_toArray, List.set_cons_zero, List.set_cons_succ]
  refine wpAnyH_take (i := 9) (oi := { dst := some 25, op := _, type := _, pos := _, after := _, guard := _ }) (v := .bool OO) rfl (by kernel_rfl) (by kernel_rfl) (by kernel_rfl) (fun _ _ _ h => h) (Or.inl ⟨by rfl, by intro w hSw; clear hSw; go_simp; (try with_reducible rfl)⟩) (by assumption) ?_
  try simp only [Act.put, List.setIfInBounds_toArray, List.set_cons_zero, List.set_cons_succ]
  refine wpAnyH_take (i := 11) (oi := { dst := some 7, op := _, type := _, pos := _, after := _, guard := _ }) (v := .int .i64 TT) rfl (by kernel_rfl) (by kernel_rfl) (by kernel_rfl) (fun _ _ _ h => h) (Or.inl ⟨by rfl, by intro w hSw; clear hSw; go_simp; (try with_reducible rfl)⟩) (by assumption) ?_
  try simp only [Act.put, List.setIfInBounds_toArray, List.set_cons_zero, List.set_cons_succ]
  refine wpAnyH_ready (rs := [12]) (by kernel_rfl) (by simp) ?_
  refine AllReadyH.cons rfl (fun K hK => ?_) AllReadyH.nil
  rw [if_pos (by rfl)]
  refine wp_stC2 (off := 0) (g := CC) K8 (by omega) rfl rfl rfl ?_
  rw [HPT.out]
  have K4 := K4.rowOther b8 (mk 2 CC) (by have := H8.out; omega)
  have K5 := K5.rowOther b8 (mk 2 CC) (by have := H8.out; omega)
  have HB : Hid (Below w.heap.size w (y4.setRow b8 (mk 2 CC))) := below_setRow HB.out (by have := H8.out; omega) _
  have K8 := K8.row 2 CC
  generalize y4.setRow b8 (mk 2 CC) = z1 at *
  clear hHeld
  refine hK.out _ _ K5 (fun hHeld => ?_)
  clear hK K
  try simp only [Act.put, List.setIfInBounds_toArray, List.set_cons_zero, List.set_cons_succ]
  refine wpAnyH_take (i := 13) (oi := { dst := some 9, op := _, type := _, pos := _, after := _, guard := _ }) (v := .bool OO) rfl (by kernel_rfl) (by kernel_rfl) (by kernel_rfl) (fun _ _ _ h => h) (Or.inl ⟨by rfl, by intro w hSw; clear hSw; go_simp; (try with_reducible rfl)⟩) (by assumption) ?_
  try simp only [Act.put, List.setIfInBounds_toArray, List.set_cons_zero, List.set_cons_succ]
  refine wpAnyH_done (by kernel_rfl) ?_ _
  clear hHeld
  go_wp2_with (first | ((with_reducible show wpList _ _ _ (Oper.mk _ (Op.load 22 _) _ _ _ _ :: _) _ _); refine loadC (K8) rfl rfl rfl ?_) | ((with_reducible show wpList _ _ _ (Oper.mk _ (Op.store 22 _ _) _ _ _ _ :: _) _ _); refine storeC (K4) rfl rfl rfl rfl ?_))
  try simp only [Act.put, List.setIfInBounds_toArray, List.set_cons_zero, List.set_cons_succ]
  try simp only [Exit.inBlock, Exit.then]
  refine retcC (p := 4) (t := 22) (b := w.heap.size + 1) (f := CC) ?_ ?_ ?_ ?_ ?_
  · exact K4.row 2 CC
  · rfl
  · rfl
  · rfl
  · exact ⟨rfl, below_setRow HB.out (by omega) (mk 2 CC)⟩
set_option maxHeartbeats 4000000 in
set_option maxRecDepth 20000 in
theorem formCell4_any (R C : Nat) (hR : R < 4) (hC : C < 4) (w : World) :
    Calls Try.prog 48 #[.agg (mk 2 (two (R : Int) (C : Int))), .int .i64 4] w fun e w' => e = .returned (.agg (mk 2 (cellF (fcP (R * 4 + C) 4)))) ∧ Below w.heap.size w w' := by
  have z16 := zero16
  have z2 := zero2
  have HP := Lib.hid (fun w => putOne R C hR hC w)
  have HH := Lib.hid (fun w => highOne (R * 4 + C) 4 w)
  clear hR hC
  have K2 := (Blk.new w 2 (two (R : Int) (C : Int)) 22).alloc (.cells (mk 2 fun _ => 0) 22)
  have K4 := Blk.new (w.alloc (.cells (mk 2 (two (R : Int) (C : Int))) 22)) 2 (fun _ => 0) 22
  simp only [World.size_alloc] at K4
  have HB := Lib.hid (((Below.refl w.heap.size w).alloc (Nat.le_refl _) (.cells (mk 2 (two (R : Int) (C : Int))) 22)).alloc (by simp) (.cells (mk 2 fun _ => 0) 22))
  generalize hM : upd (fun _ => 0) (R * 4 + C) 1 = M at *
  generalize hiT (formF M 4) = TT at *
  generalize hiO (formF M 4) = OO at *
  generalize cellF (fcP (R * 4 + C) 4) = CC at *
  have HPT : Hid (mk 2 (patch (fun _ => 0) 0 2 CC) = mk 2 CC) := mk_congr fun j hj => by unfold patch; rw [if_pos (by omega), Nat.sub_zero]
  clear hM
  go_enter Try.func48, Try.ntmps48
  go_wp2_with ((with_reducible show wpList _ _ _ (Oper.mk _ (Op.load 22 _) _ _ _ _ :: _) _ _); refine loadC (K2) rfl rfl rfl ?_)
  refine (HP.out _).mono ?_
  rintro e w2 ⟨rfl, hb⟩
  have hlt := K4.lt
  have K4 := K4.below hb K4.lt
  have H5 : Hid (w.heap.size + 1 < w2.heap.size) := K4.lt
  have HB := HB.out.trans (hb.mono HB.out.size)
  have HB : Hid (Below w.heap.size w (w2.alloc (.cells (mk 16 M) 35))) := HB.alloc HB.size _
  have K4 := K4.alloc (.cells (mk 16 M) 35)
  have K5 := Blk.new w2 16 M 35
  clear hb HP K2 hlt
  go_wp2_with fail
  generalize w2.alloc (.cells (mk 16 M) 35) = w3 at *
  generalize w2.heap.size = b5 at *
  refine wp_region_held_drew (S := fun W => Blk W b5 16 M 35) (by kernel_rfl) (K5.drew) (fun hHeld => ?_)
  have K4 := K4.drew
  have K5 : Blk w3.drew b5 16 M 35 := K5.drew
  have HB : Hid (Below w.heap.size w w3.drew) := HB.out.drew
  generalize w3.drew = y0 at *
  refine wpAnyH_take (i := 1) (oi := { dst := some 18, op := _, type := _, pos := _, after := _, guard := _ }) (v := .int .i64 4) rfl (by kernel_rfl) (by kernel_rfl) (by kernel_rfl) (fun _ _ _ h => h) (Or.inl ⟨by rfl, by intro w hSw; clear hSw; go_simp; (try with_reducible rfl)⟩) (by assumption) ?_
  try simp only [Act.put, List.setIfInBounds_toArray, List.set_cons_zero, List.set_cons_succ]
  refine wpAnyH_take (i := 3) (oi := { dst := some 20, op := _, type := _, pos := _, after := _, guard := _ }) (v := .agg (mk 16 M)) rfl (by kernel_rfl) (by kernel_rfl) (by kernel_rfl) (fun _ _ _ h => h) (Or.inl ⟨by rfl, fun _ q => execB q rfl rfl⟩) (by assumption) ?_
  try simp only [Act.put, List.setIfInBounds_toArray, List.set_cons_zero, List.set_cons_succ]
  refine wpAnyH_ready (rs := [0, 10]) (by kernel_rfl) (by simp) ?_
  refine AllReadyH.cons rfl (fun K hK => ?_) ?_
  · go_simp
    refine (forms_any _).mono ?_
    rintro e y1 ⟨rfl, hb⟩
    have K4 := K4.below hb K4.lt
    have K5 := K5.below hb K5.lt
    have HB : Hid (Below w.heap.size w y1) := HB.out.trans (hb.mono HB.out.size)
    clear hb hHeld
    go_wp2_with fail
    refine hK.out _ _ K5 (fun hHeld => ?_)
    clear hK K
    try simp only [Act.put, List.setIfInBounds_toArray, List.set_cons_zero, List.set_cons_succ]
    refine wpAnyH_take (i := 2) (oi := { dst := some 19, op := _, type := _, pos := _, after := _, guard := _ }) (v := .func (.func 71) #[] #[]) rfl (by kernel_rfl) (by kernel_rfl) (by kernel_rfl) (fun _ _ _ h => h) (Or.inl ⟨by rfl, by intro W hSw; clear hSw; have iF := idxF4 W; go_simp⟩) (by assumption) ?_
    try simp only [Act.put, List.setIfInBounds_toArray, List.set_cons_zero, List.set_cons_succ]
    refine wpAnyH_ready (rs := [4, 10]) (by kernel_rfl) (by simp) ?_
    refine AllReadyH.cons rfl (fun K hK => ?_) ?_
    · go_simp
      refine (form4_any M _).mono ?_
      rintro e y2 ⟨rfl, hb⟩
      have K4 := K4.below hb K4.lt
      have K5 := K5.below hb K5.lt
      have HB : Hid (Below w.heap.size w y2) := HB.out.trans (hb.mono HB.out.size)
      clear hb hHeld
      go_wp2_with fail
      refine hK.out _ _ K5 (fun hHeld => ?_)
      clear hK K
      try simp only [Act.put, List.setIfInBounds_toArray, List.set_cons_zero, List.set_cons_succ]
      refine wpAnyH_ready (rs := [5, 10]) (by kernel_rfl) (by simp) ?_
      refine AllReadyH.cons rfl (fun K hK => ?_) ?_
      · go_simp
        refine (HH.out _).mono ?_
        rintro e y3 ⟨rfl, hb⟩
        have K4 := K4.below hb K4.lt
        have K5 := K5.below hb K5.lt
        have HB : Hid (Below w.heap.size w y3) := HB.out.trans (hb.mono HB.out.size)
        clear hb hHeld
        go_wp2_with fail
        refine hK.out _ _ K5 (fun hHeld => ?_)
        clear hK K
        try simp only [Act.put, List.setIfInBounds_toArray, List.set_cons_zero, List.set_cons_succ]
        refine wpAnyH_take (i := 6) (oi := { dst := some 16, op := _, type := _, pos := _, after := _, guard := _ }) (v := .tuple #[.int .i64 TT, .agg (mk 2 CC), .bool OO]) rfl (by kernel_rfl) (by kernel_rfl) (by kernel_rfl) (fun _ _ _ h => h) (Or.inl ⟨by rfl, by intro w hSw; clear hSw; go_simp; (try with_reducible rfl)⟩) (by assumption) ?_
        try simp only [Act.put, List.setIfInBounds_toArray, List.set_cons_zero, List.set_cons_succ]
        refine wpAnyH_take (i := 7) (oi := { dst := some 23, op := _, type := _, pos := _, after := _, guard := _ }) (v := .int .i64 TT) rfl (by kernel_rfl) (by kernel_rfl) (by kernel_rfl) (fun _ _ _ h => h) (Or.inl ⟨by rfl, by intro w hSw; clear hSw; go_simp; (try with_reducible rfl)⟩) (by assumption) ?_
        try simp only [Act.put, List.setIfInBounds_toArray, List.set_cons_zero, List.set_cons_succ]
        refine wpAnyH_take (i := 8) (oi := { dst := some 24, op := _, type := _, pos := _, after := _, guard := _ }) (v := .agg (mk 2 CC)) rfl (by kernel_rfl) (by kernel_rfl) (by kernel_rfl) (fun _ _ _ h => h) (Or.inl ⟨by rfl, by intro w hSw; clear hSw; go_simp; (try with_reducible rfl)⟩) (by assumption) ?_
        try simp only [Act.put, List.setIfInBounds_toArray, List.set_cons_zero, List.set_cons_succ]
        refine wpAnyH_take (i := 9) (oi := { dst := some 25, op := _, type := _, pos := _, after := _, guard := _ }) (v := .bool OO) rfl (by kernel_rfl) (by kernel_rfl) (by kernel_rfl) (fun _ _ _ h => h) (Or.inl ⟨by rfl, by intro w hSw; clear hSw; go_simp; (try with_reducible rfl)⟩) (by assumption) ?_
        try simp only [Act.put, List.setIfInBounds_toArray, List.set_cons_zero, List.set_cons_succ]
        refine wpAnyH_ready (rs := [10]) (by kernel_rfl) (by simp) ?_
        refine AllReadyH.cons rfl (fun K hK => ?_) AllReadyH.nil
        rw [if_pos (by rfl)]
        refine wp_allocC2 rfl ?_
        have K8 := Blk.new y3 2 (fun _ => 0) 22
        have H8 : Hid (w.heap.size + 1 < y3.heap.size ∧ b5 < y3.heap.size) := ⟨K4.lt, K5.lt⟩
        have K4 := K4.alloc (.cells (mk 2 fun _ => 0) 22)
        have K5 := K5.alloc (.cells (mk 2 fun _ => 0) 22)
        have HB : Hid (Below w.heap.size w (y3.alloc (.cells (mk 2 fun _ => 0) 22))) := HB.out.alloc HB.out.size _
        clear hHeld
        generalize y3.alloc (.cells (mk 2 fun _ => 0) 22) = y4 at *
        generalize y3.heap.size = b8 at *
        refine hK.out _ _ K5 (fun hHeld => ?_)
        clear hK K
        try simp only [Act.put, List.setIfInBounds_toArray, List.set_cons_zero, List.set_cons_succ]
        refine wpAnyH_take (i := 11) (oi := { dst := some 7, op := _, type := _, pos := _, after := _, guard := _ }) (v := .int .i64 TT) rfl (by kernel_rfl) (by kernel_rfl) (by kernel_rfl) (fun _ _ _ h => h) (Or.inl ⟨by rfl, by intro w hSw; clear hSw; go_simp; (try with_reducible rfl)⟩) (by assumption) ?_
        try simp only [Act.put, List.setIfInBounds_toArray, List.set_cons_zero, List.set_cons_succ]
        refine wpAnyH_ready (rs := [12]) (by kernel_rfl) (by simp) ?_
        refine AllReadyH.cons rfl (fun K hK => ?_) AllReadyH.nil
        rw [if_pos (by rfl)]
        refine wp_stC2 (off := 0) (g := CC) K8 (by omega) rfl rfl rfl ?_
        rw [HPT.out]
        have K4 := K4.rowOther b8 (mk 2 CC) (by have := H8.out; omega)
        have K5 := K5.rowOther b8 (mk 2 CC) (by have := H8.out; omega)
        have HB : Hid (Below w.heap.size w (y4.setRow b8 (mk 2 CC))) := below_setRow HB.out (by have := H8.out; omega) _
        have K8 := K8.row 2 CC
        generalize y4.setRow b8 (mk 2 CC) = z1 at *
        clear hHeld
        refine hK.out _ _ K5 (fun hHeld => ?_)
        clear hK K
        try simp only [Act.put, List.setIfInBounds_toArray, List.set_cons_zero, List.set_cons_succ]
        refine wpAnyH_take (i := 13) (oi := { dst := some 9, op := _, type := _, pos := _, after := _, guard := _ }) (v := .bool OO) rfl (by kernel_rfl) (by kernel_rfl) (by kernel_rfl) (fun _ _ _ h => h) (Or.inl ⟨by rfl, by intro w hSw; clear hSw; go_simp; (try with_reducible rfl)⟩) (by assumption) ?_
        try simp only [Act.put, List.setIfInBounds_toArray, List.set_cons_zero, List.set_cons_succ]
        refine wpAnyH_done (by kernel_rfl) ?_ _
        clear hHeld
        go_wp2_with (first | ((with_reducible show wpList _ _ _ (Oper.mk _ (Op.load 22 _) _ _ _ _ :: _) _ _); refine loadC (K8) rfl rfl rfl ?_) | ((with_reducible show wpList _ _ _ (Oper.mk _ (Op.store 22 _ _) _ _ _ _ :: _) _ _); refine storeC (K4) rfl rfl rfl rfl ?_))
        try simp only [Act.put, List.setIfInBounds_toArray, List.set_cons_zero, List.set_cons_succ]
        try simp only [Exit.inBlock, Exit.then]
        refine retcC (p := 4) (t := 22) (b := w.heap.size + 1) (f := CC) ?_ ?_ ?_ ?_ ?_
        · exact K4.row 2 CC
        · rfl
        · rfl
        · rfl
        · exact ⟨rfl, below_setRow HB.out (by omega) (mk 2 CC)⟩
      refine AllReadyH.cons rfl (fun K hK => ?_) AllReadyH.nil
      rw [if_pos (by rfl)]
      refine wp_allocC2 rfl ?_
      have K8 := Blk.new y2 2 (fun _ => 0) 22
      have H8 : Hid (w.heap.size + 1 < y2.heap.size ∧ b5 < y2.heap.size) := ⟨K4.lt, K5.lt⟩
      have K4 := K4.alloc (.cells (mk 2 fun _ => 0) 22)
      have K5 := K5.alloc (.cells (mk 2 fun _ => 0) 22)
      have HB : Hid (Below w.heap.size w (y2.alloc (.cells (mk 2 fun _ => 0) 22))) := HB.out.alloc HB.out.size _
      clear hHeld
      generalize y2.alloc (.cells (mk 2 fun _ => 0) 22) = y3 at *
      generalize y2.heap.size = b8 at *
      refine hK.out _ _ K5 (fun hHeld => ?_)
      clear hK K
      try simp only [Act.put, List.setIfInBounds_toArray, List.set_cons_zero, List.set_cons_succ]
      refine wpAnyH_ready (rs := [5]) (by kernel_rfl) (by simp) ?_
      refine AllReadyH.cons rfl (fun K hK => ?_) AllReadyH.nil
      go_simp
      refine (HH.out _).mono ?_
      rintro e y4 ⟨rfl, hb⟩
      have K4 := K4.below hb K4.lt
      have K5 := K5.below hb K5.lt
      have K8 := K8.below hb K8.lt
      have HB : Hid (Below w.heap.size w y4) := HB.out.trans (hb.mono HB.out.size)
      clear hb hHeld
      go_wp2_with fail
      refine hK.out _ _ K5 (fun hHeld => ?_)
      clear hK K
      try simp only [Act.put, List.setIfInBounds_toArray, List.set_cons_zero, List.set_cons_succ]
      refine wpAnyH_take (i := 6) (oi := { dst := some 16, op := _, type := _, pos := _, after := _, guard := _ }) (v := .tuple #[.int .i64 TT, .agg (mk 2 CC), .bool OO]) rfl (by kernel_rfl) (by kernel_rfl) (by kernel_rfl) (fun _ _ _ h => h) (Or.inl ⟨by rfl, by intro w hSw; clear hSw; go_simp; (try with_reducible rfl)⟩) (by assumption) ?_
      try simp only [Act.put, List.setIfInBounds_toArray, List.set_cons_zero, List.set_cons_succ]
      refine wpAnyH_take (i := 7) (oi := { dst := some 23, op := _, type := _, pos := _, after := _, guard := _ }) (v := .int .i64 TT) rfl (by kernel_rfl) (by kernel_rfl) (by kernel_rfl) (fun _ _ _ h => h) (Or.inl ⟨by rfl, by intro w hSw; clear hSw; go_simp; (try with_reducible rfl)⟩) (by assumption) ?_
      try simp only [Act.put, List.setIfInBounds_toArray, List.set_cons_zero, List.set_cons_succ]
      refine wpAnyH_take (i := 8) (oi := { dst := some 24, op := _, type := _, pos := _, after := _, guard := _ }) (v := .agg (mk 2 CC)) rfl (by kernel_rfl) (by kernel_rfl) (by kernel_rfl) (fun _ _ _ h => h) (Or.inl ⟨by rfl, by intro w hSw; clear hSw; go_simp; (try with_reducible rfl)⟩) (by assumption) ?_
      try simp only [Act.put, List.setIfInBounds_toArray, List.set_cons_zero, List.set_cons_succ]
      refine wpAnyH_take (i := 9) (oi := { dst := some 25, op := _, type := _, pos := _, after := _, guard := _ }) (v := .bool OO) rfl (by kernel_rfl) (by kernel_rfl) (by kernel_rfl) (fun _ _ _ h => h) (Or.inl ⟨by rfl, by intro w hSw; clear hSw; go_simp; (try with_reducible rfl)⟩) (by assumption) ?_
      try simp only [Act.put, List.setIfInBounds_toArray, List.set_cons_zero, List.set_cons_succ]
      refine wpAnyH_take (i := 11) (oi := { dst := some 7, op := _, type := _, pos := _, after := _, guard := _ }) (v := .int .i64 TT) rfl (by kernel_rfl) (by kernel_rfl) (by kernel_rfl) (fun _ _ _ h => h) (Or.inl ⟨by rfl, by intro w hSw; clear hSw; go_simp; (try with_reducible rfl)⟩) (by assumption) ?_
      try simp only [Act.put, List.setIfInBounds_toArray, List.set_cons_zero, List.set_cons_succ]
      refine wpAnyH_ready (rs := [12]) (by kernel_rfl) (by simp) ?_
      refine AllReadyH.cons rfl (fun K hK => ?_) AllReadyH.nil
      rw [if_pos (by rfl)]
      refine wp_stC2 (off := 0) (g := CC) K8 (by omega) rfl rfl rfl ?_
      rw [HPT.out]
      have K4 := K4.rowOther b8 (mk 2 CC) (by have := H8.out; omega)
      have K5 := K5.rowOther b8 (mk 2 CC) (by have := H8.out; omega)
      have HB : Hid (Below w.heap.size w (y4.setRow b8 (mk 2 CC))) := below_setRow HB.out (by have := H8.out; omega) _
      have K8 := K8.row 2 CC
      generalize y4.setRow b8 (mk 2 CC) = z1 at *
      clear hHeld
      refine hK.out _ _ K5 (fun hHeld => ?_)
      clear hK K
      try simp only [Act.put, List.setIfInBounds_toArray, List.set_cons_zero, List.set_cons_succ]
      refine wpAnyH_take (i := 13) (oi := { dst := some 9, op := _, type := _, pos := _, after := _, guard := _ }) (v := .bool OO) rfl (by kernel_rfl) (by kernel_rfl) (by kernel_rfl) (fun _ _ _ h => h) (Or.inl ⟨by rfl, by intro w hSw; clear hSw; go_simp; (try with_reducible rfl)⟩) (by assumption) ?_
      try simp only [Act.put, List.setIfInBounds_toArray, List.set_cons_zero, List.set_cons_succ]
      refine wpAnyH_done (by kernel_rfl) ?_ _
      clear hHeld
      go_wp2_with (first | ((with_reducible show wpList _ _ _ (Oper.mk _ (Op.load 22 _) _ _ _ _ :: _) _ _); refine loadC (K8) rfl rfl rfl ?_) | ((with_reducible show wpList _ _ _ (Oper.mk _ (Op.store 22 _ _) _ _ _ _ :: _) _ _); refine storeC (K4) rfl rfl rfl rfl ?_))
      try simp only [Act.put, List.setIfInBounds_toArray, List.set_cons_zero, List.set_cons_succ]
      try simp only [Exit.inBlock, Exit.then]
      refine retcC (p := 4) (t := 22) (b := w.heap.size + 1) (f := CC) ?_ ?_ ?_ ?_ ?_
      · exact K4.row 2 CC
      · rfl
      · rfl
      · rfl
      · exact ⟨rfl, below_setRow HB.out (by omega) (mk 2 CC)⟩
    refine AllReadyH.cons rfl (fun K hK => ?_) AllReadyH.nil
    rw [if_pos (by rfl)]
    refine wp_allocC2 rfl ?_
    have K8 := Blk.new y1 2 (fun _ => 0) 22
    have H8 : Hid (w.heap.size + 1 < y1.heap.size ∧ b5 < y1.heap.size) := ⟨K4.lt, K5.lt⟩
    have K4 := K4.alloc (.cells (mk 2 fun _ => 0) 22)
    have K5 := K5.alloc (.cells (mk 2 fun _ => 0) 22)
    have HB : Hid (Below w.heap.size w (y1.alloc (.cells (mk 2 fun _ => 0) 22))) := HB.out.alloc HB.out.size _
    clear hHeld
    generalize y1.alloc (.cells (mk 2 fun _ => 0) 22) = y2 at *
    generalize y1.heap.size = b8 at *
    refine hK.out _ _ K5 (fun hHeld => ?_)
    clear hK K
    try simp only [Act.put, List.setIfInBounds_toArray, List.set_cons_zero, List.set_cons_succ]
    refine wpAnyH_ready (rs := [4]) (by kernel_rfl) (by simp) ?_
    refine AllReadyH.cons rfl (fun K hK => ?_) AllReadyH.nil
    go_simp
    refine (form4_any M _).mono ?_
    rintro e y3 ⟨rfl, hb⟩
    have K4 := K4.below hb K4.lt
    have K5 := K5.below hb K5.lt
    have K8 := K8.below hb K8.lt
    have HB : Hid (Below w.heap.size w y3) := HB.out.trans (hb.mono HB.out.size)
    clear hb hHeld
    go_wp2_with fail
    refine hK.out _ _ K5 (fun hHeld => ?_)
    clear hK K
    try simp only [Act.put, List.setIfInBounds_toArray, List.set_cons_zero, List.set_cons_succ]
    refine wpAnyH_ready (rs := [5]) (by kernel_rfl) (by simp) ?_
    refine AllReadyH.cons rfl (fun K hK => ?_) AllReadyH.nil
    go_simp
    refine (HH.out _).mono ?_
    rintro e y4 ⟨rfl, hb⟩
    have K4 := K4.below hb K4.lt
    have K5 := K5.below hb K5.lt
    have K8 := K8.below hb K8.lt
    have HB : Hid (Below w.heap.size w y4) := HB.out.trans (hb.mono HB.out.size)
    clear hb hHeld
    go_wp2_with fail
    refine hK.out _ _ K5 (fun hHeld => ?_)
    clear hK K
    try simp only [Act.put, List.setIfInBounds_toArray, List.set_cons_zero, List.set_cons_succ]
    refine wpAnyH_take (i := 6) (oi := { dst := some 16, op := _, type := _, pos := _, after := _, guard := _ }) (v := .tuple #[.int .i64 TT, .agg (mk 2 CC), .bool OO]) rfl (by kernel_rfl) (by kernel_rfl) (by kernel_rfl) (fun _ _ _ h => h) (Or.inl ⟨by rfl, by intro w hSw; clear hSw; go_simp; (try with_reducible rfl)⟩) (by assumption) ?_
    try simp only [Act.put, List.setIfInBounds_toArray, List.set_cons_zero, List.set_cons_succ]
    refine wpAnyH_take (i := 7) (oi := { dst := some 23, op := _, type := _, pos := _, after := _, guard := _ }) (v := .int .i64 TT) rfl (by kernel_rfl) (by kernel_rfl) (by kernel_rfl) (fun _ _ _ h => h) (Or.inl ⟨by rfl, by intro w hSw; clear hSw; go_simp; (try with_reducible rfl)⟩) (by assumption) ?_
    try simp only [Act.put, List.setIfInBounds_toArray, List.set_cons_zero, List.set_cons_succ]
    refine wpAnyH_take (i := 8) (oi := { dst := some 24, op := _, type := _, pos := _, after := _, guard := _ }) (v := .agg (mk 2 CC)) rfl (by kernel_rfl) (by kernel_rfl) (by kernel_rfl) (fun _ _ _ h => h) (Or.inl ⟨by rfl, by intro w hSw; clear hSw; go_simp; (try with_reducible rfl)⟩) (by assumption) ?_
    try simp only [Act.put, List.setIfInBounds_toArray, List.set_cons_zero, List.set_cons_succ]
    refine wpAnyH_take (i := 9) (oi := { dst := some 25, op := _, type := _, pos := _, after := _, guard := _ }) (v := .bool OO) rfl (by kernel_rfl) (by kernel_rfl) (by kernel_rfl) (fun _ _ _ h => h) (Or.inl ⟨by rfl, by intro w hSw; clear hSw; go_simp; (try with_reducible rfl)⟩) (by assumption) ?_
    try simp only [Act.put, List.setIfInBounds_toArray, List.set_cons_zero, List.set_cons_succ]
    refine wpAnyH_take (i := 11) (oi := { dst := some 7, op := _, type := _, pos := _, after := _, guard := _ }) (v := .int .i64 TT) rfl (by kernel_rfl) (by kernel_rfl) (by kernel_rfl) (fun _ _ _ h => h) (Or.inl ⟨by rfl, by intro w hSw; clear hSw; go_simp; (try with_reducible rfl)⟩) (by assumption) ?_
    try simp only [Act.put, List.setIfInBounds_toArray, List.set_cons_zero, List.set_cons_succ]
    refine wpAnyH_ready (rs := [12]) (by kernel_rfl) (by simp) ?_
    refine AllReadyH.cons rfl (fun K hK => ?_) AllReadyH.nil
    rw [if_pos (by rfl)]
    refine wp_stC2 (off := 0) (g := CC) K8 (by omega) rfl rfl rfl ?_
    rw [HPT.out]
    have K4 := K4.rowOther b8 (mk 2 CC) (by have := H8.out; omega)
    have K5 := K5.rowOther b8 (mk 2 CC) (by have := H8.out; omega)
    have HB : Hid (Below w.heap.size w (y4.setRow b8 (mk 2 CC))) := below_setRow HB.out (by have := H8.out; omega) _
    have K8 := K8.row 2 CC
    generalize y4.setRow b8 (mk 2 CC) = z1 at *
    clear hHeld
    refine hK.out _ _ K5 (fun hHeld => ?_)
    clear hK K
    try simp only [Act.put, List.setIfInBounds_toArray, List.set_cons_zero, List.set_cons_succ]
    refine wpAnyH_take (i := 13) (oi := { dst := some 9, op := _, type := _, pos := _, after := _, guard := _ }) (v := .bool OO) rfl (by kernel_rfl) (by kernel_rfl) (by kernel_rfl) (fun _ _ _ h => h) (Or.inl ⟨by rfl, by intro w hSw; clear hSw; go_simp; (try with_reducible rfl)⟩) (by assumption) ?_
    try simp only [Act.put, List.setIfInBounds_toArray, List.set_cons_zero, List.set_cons_succ]
    refine wpAnyH_done (by kernel_rfl) ?_ _
    clear hHeld
    go_wp2_with (first | ((with_reducible show wpList _ _ _ (Oper.mk _ (Op.load 22 _) _ _ _ _ :: _) _ _); refine loadC (K8) rfl rfl rfl ?_) | ((with_reducible show wpList _ _ _ (Oper.mk _ (Op.store 22 _ _) _ _ _ _ :: _) _ _); refine storeC (K4) rfl rfl rfl rfl ?_))
    try simp only [Act.put, List.setIfInBounds_toArray, List.set_cons_zero, List.set_cons_succ]
    try simp only [Exit.inBlock, Exit.then]
    refine retcC (p := 4) (t := 22) (b := w.heap.size + 1) (f := CC) ?_ ?_ ?_ ?_ ?_
    · exact K4.row 2 CC
    · rfl
    · rfl
    · rfl
    · exact ⟨rfl, below_setRow HB.out (by omega) (mk 2 CC)⟩
  refine AllReadyH.cons rfl (fun K hK => ?_) AllReadyH.nil
  rw [if_pos (by rfl)]
  refine wp_allocC2 rfl ?_
  have K8 := Blk.new y0 2 (fun _ => 0) 22
  have H8 : Hid (w.heap.size + 1 < y0.heap.size ∧ b5 < y0.heap.size) := ⟨K4.lt, K5.lt⟩
  have K4 := K4.alloc (.cells (mk 2 fun _ => 0) 22)
  have K5 := K5.alloc (.cells (mk 2 fun _ => 0) 22)
  have HB : Hid (Below w.heap.size w (y0.alloc (.cells (mk 2 fun _ => 0) 22))) := HB.out.alloc HB.out.size _
  clear hHeld
  generalize y0.alloc (.cells (mk 2 fun _ => 0) 22) = y1 at *
  generalize y0.heap.size = b8 at *
  refine hK.out _ _ K5 (fun hHeld => ?_)
  clear hK K
  try simp only [Act.put, List.setIfInBounds_toArray, List.set_cons_zero, List.set_cons_succ]
  refine wpAnyH_ready (rs := [0]) (by kernel_rfl) (by simp) ?_
  refine AllReadyH.cons rfl (fun K hK => ?_) AllReadyH.nil
  go_simp
  refine (forms_any _).mono ?_
  rintro e y2 ⟨rfl, hb⟩
  have K4 := K4.below hb K4.lt
  have K5 := K5.below hb K5.lt
  have K8 := K8.below hb K8.lt
  have HB : Hid (Below w.heap.size w y2) := HB.out.trans (hb.mono HB.out.size)
  clear hb hHeld
  go_wp2_with fail
  refine hK.out _ _ K5 (fun hHeld => ?_)
  clear hK K
  try simp only [Act.put, List.setIfInBounds_toArray, List.set_cons_zero, List.set_cons_succ]
  refine wpAnyH_take (i := 2) (oi := { dst := some 19, op := _, type := _, pos := _, after := _, guard := _ }) (v := .func (.func 71) #[] #[]) rfl (by kernel_rfl) (by kernel_rfl) (by kernel_rfl) (fun _ _ _ h => h) (Or.inl ⟨by rfl, by intro W hSw; clear hSw; have iF := idxF4 W; go_simp⟩) (by assumption) ?_
  try simp only [Act.put, List.setIfInBounds_toArray, List.set_cons_zero, List.set_cons_succ]
  refine wpAnyH_ready (rs := [4]) (by kernel_rfl) (by simp) ?_
  refine AllReadyH.cons rfl (fun K hK => ?_) AllReadyH.nil
  go_simp
  refine (form4_any M _).mono ?_
  rintro e y3 ⟨rfl, hb⟩
  have K4 := K4.below hb K4.lt
  have K5 := K5.below hb K5.lt
  have K8 := K8.below hb K8.lt
  have HB : Hid (Below w.heap.size w y3) := HB.out.trans (hb.mono HB.out.size)
  clear hb hHeld
  go_wp2_with fail
  refine hK.out _ _ K5 (fun hHeld => ?_)
  clear hK K
  try simp only [Act.put, List.setIfInBounds_toArray, List.set_cons_zero, List.set_cons_succ]
  refine wpAnyH_ready (rs := [5]) (by kernel_rfl) (by simp) ?_
  refine AllReadyH.cons rfl (fun K hK => ?_) AllReadyH.nil
  go_simp
  refine (HH.out _).mono ?_
  rintro e y4 ⟨rfl, hb⟩
  have K4 := K4.below hb K4.lt
  have K5 := K5.below hb K5.lt
  have K8 := K8.below hb K8.lt
  have HB : Hid (Below w.heap.size w y4) := HB.out.trans (hb.mono HB.out.size)
  clear hb hHeld
  go_wp2_with fail
  refine hK.out _ _ K5 (fun hHeld => ?_)
  clear hK K
  try simp only [Act.put, List.setIfInBounds_toArray, List.set_cons_zero, List.set_cons_succ]
  refine wpAnyH_take (i := 6) (oi := { dst := some 16, op := _, type := _, pos := _, after := _, guard := _ }) (v := .tuple #[.int .i64 TT, .agg (mk 2 CC), .bool OO]) rfl (by kernel_rfl) (by kernel_rfl) (by kernel_rfl) (fun _ _ _ h => h) (Or.inl ⟨by rfl, by intro w hSw; clear hSw; go_simp; (try with_reducible rfl)⟩) (by assumption) ?_
  try simp only [Act.put, List.setIfInBounds_toArray, List.set_cons_zero, List.set_cons_succ]
  refine wpAnyH_take (i := 7) (oi := { dst := some 23, op := _, type := _, pos := _, after := _, guard := _ }) (v := .int .i64 TT) rfl (by kernel_rfl) (by kernel_rfl) (by kernel_rfl) (fun _ _ _ h => h) (Or.inl ⟨by rfl, by intro w hSw; clear hSw; go_simp; (try with_reducible rfl)⟩) (by assumption) ?_
  try simp only [Act.put, List.setIfInBounds_toArray, List.set_cons_zero, List.set_cons_succ]
  refine wpAnyH_take (i := 8) (oi := { dst := some 24, op := _, type := _, pos := _, after := _, guard := _ }) (v := .agg (mk 2 CC)) rfl (by kernel_rfl) (by kernel_rfl) (by kernel_rfl) (fun _ _ _ h => h) (Or.inl ⟨by rfl, by intro w hSw; clear hSw; go_simp; (try with_reducible rfl)⟩) (by assumption) ?_
  try simp only [Act.put, List.setIfInBounds_toArray, List.set_cons_zero, List.set_cons_succ]
  refine wpAnyH_take (i := 9) (oi := { dst := some 25, op := _, type := _, pos := _, after := _, guard := _ }) (v := .bool OO) rfl (by kernel_rfl) (by kernel_rfl) (by kernel_rfl) (fun _ _ _ h => h) (Or.inl ⟨by rfl, by intro w hSw; clear hSw; go_simp; (try with_reducible rfl)⟩) (by assumption) ?_
  try simp only [Act.put, List.setIfInBounds_toArray, List.set_cons_zero, List.set_cons_succ]
  refine wpAnyH_take (i := 11) (oi := { dst := some 7, op := _, type := _, pos := _, after := _, guard := _ }) (v := .int .i64 TT) rfl (by kernel_rfl) (by kernel_rfl) (by kernel_rfl) (fun _ _ _ h => h) (Or.inl ⟨by rfl, by intro w hSw; clear hSw; go_simp; (try with_reducible rfl)⟩) (by assumption) ?_
  try simp only [Act.put, List.setIfInBounds_toArray, List.set_cons_zero, List.set_cons_succ]
  refine wpAnyH_ready (rs := [12]) (by kernel_rfl) (by simp) ?_
  refine AllReadyH.cons rfl (fun K hK => ?_) AllReadyH.nil
  rw [if_pos (by rfl)]
  refine wp_stC2 (off := 0) (g := CC) K8 (by omega) rfl rfl rfl ?_
  rw [HPT.out]
  have K4 := K4.rowOther b8 (mk 2 CC) (by have := H8.out; omega)
  have K5 := K5.rowOther b8 (mk 2 CC) (by have := H8.out; omega)
  have HB : Hid (Below w.heap.size w (y4.setRow b8 (mk 2 CC))) := below_setRow HB.out (by have := H8.out; omega) _
  have K8 := K8.row 2 CC
  generalize y4.setRow b8 (mk 2 CC) = z1 at *
  clear hHeld
  refine hK.out _ _ K5 (fun hHeld => ?_)
  clear hK K
  try simp only [Act.put, List.setIfInBounds_toArray, List.set_cons_zero, List.set_cons_succ]
  refine wpAnyH_take (i := 13) (oi := { dst := some 9, op := _, type := _, pos := _, after := _, guard := _ }) (v := .bool OO) rfl (by kernel_rfl) (by kernel_rfl) (by kernel_rfl) (fun _ _ _ h => h) (Or.inl ⟨by rfl, by intro w hSw; clear hSw; go_simp; (try with_reducible rfl)⟩) (by assumption) ?_
  try simp only [Act.put, List.setIfInBounds_toArray, List.set_cons_zero, List.set_cons_succ]
  refine wpAnyH_done (by kernel_rfl) ?_ _
  clear hHeld
  go_wp2_with (first | ((with_reducible show wpList _ _ _ (Oper.mk _ (Op.load 22 _) _ _ _ _ :: _) _ _); refine loadC (K8) rfl rfl rfl ?_) | ((with_reducible show wpList _ _ _ (Oper.mk _ (Op.store 22 _ _) _ _ _ _ :: _) _ _); refine storeC (K4) rfl rfl rfl rfl ?_))
  try simp only [Act.put, List.setIfInBounds_toArray, List.set_cons_zero, List.set_cons_succ]
  try simp only [Exit.inBlock, Exit.then]
  refine retcC (p := 4) (t := 22) (b := w.heap.size + 1) (f := CC) ?_ ?_ ?_ ?_ ?_
  · exact K4.row 2 CC
  · rfl
  · rfl
  · rfl
  · exact ⟨rfl, below_setRow HB.out (by omega) (mk 2 CC)⟩
set_option maxHeartbeats 4000000 in
set_option maxRecDepth 20000 in
theorem formCell5_any (R C : Nat) (hR : R < 4) (hC : C < 4) (w : World) :
    Calls Try.prog 48 #[.agg (mk 2 (two (R : Int) (C : Int))), .int .i64 5] w fun e w' => e = .returned (.agg (mk 2 (cellF (fcP (R * 4 + C) 5)))) ∧ Below w.heap.size w w' := by
  have z16 := zero16
  have z2 := zero2
  have HP := Lib.hid (fun w => putOne R C hR hC w)
  have HH := Lib.hid (fun w => highOne (R * 4 + C) 5 w)
  clear hR hC
  have K2 := (Blk.new w 2 (two (R : Int) (C : Int)) 22).alloc (.cells (mk 2 fun _ => 0) 22)
  have K4 := Blk.new (w.alloc (.cells (mk 2 (two (R : Int) (C : Int))) 22)) 2 (fun _ => 0) 22
  simp only [World.size_alloc] at K4
  have HB := Lib.hid (((Below.refl w.heap.size w).alloc (Nat.le_refl _) (.cells (mk 2 (two (R : Int) (C : Int))) 22)).alloc (by simp) (.cells (mk 2 fun _ => 0) 22))
  generalize hM : upd (fun _ => 0) (R * 4 + C) 1 = M at *
  generalize hiT (formF M 5) = TT at *
  generalize hiO (formF M 5) = OO at *
  generalize cellF (fcP (R * 4 + C) 5) = CC at *
  have HPT : Hid (mk 2 (patch (fun _ => 0) 0 2 CC) = mk 2 CC) := mk_congr fun j hj => by unfold patch; rw [if_pos (by omega), Nat.sub_zero]
  clear hM
  go_enter Try.func48, Try.ntmps48
  go_wp2_with ((with_reducible show wpList _ _ _ (Oper.mk _ (Op.load 22 _) _ _ _ _ :: _) _ _); refine loadC (K2) rfl rfl rfl ?_)
  refine (HP.out _).mono ?_
  rintro e w2 ⟨rfl, hb⟩
  have hlt := K4.lt
  have K4 := K4.below hb K4.lt
  have H5 : Hid (w.heap.size + 1 < w2.heap.size) := K4.lt
  have HB := HB.out.trans (hb.mono HB.out.size)
  have HB : Hid (Below w.heap.size w (w2.alloc (.cells (mk 16 M) 35))) := HB.alloc HB.size _
  have K4 := K4.alloc (.cells (mk 16 M) 35)
  have K5 := Blk.new w2 16 M 35
  clear hb HP K2 hlt
  go_wp2_with fail
  generalize w2.alloc (.cells (mk 16 M) 35) = w3 at *
  generalize w2.heap.size = b5 at *
  refine wp_region_held_drew (S := fun W => Blk W b5 16 M 35) (by kernel_rfl) (K5.drew) (fun hHeld => ?_)
  have K4 := K4.drew
  have K5 : Blk w3.drew b5 16 M 35 := K5.drew
  have HB : Hid (Below w.heap.size w w3.drew) := HB.out.drew
  generalize w3.drew = y0 at *
  refine wpAnyH_take (i := 1) (oi := { dst := some 18, op := _, type := _, pos := _, after := _, guard := _ }) (v := .int .i64 5) rfl (by kernel_rfl) (by kernel_rfl) (by kernel_rfl) (fun _ _ _ h => h) (Or.inl ⟨by rfl, by intro w hSw; clear hSw; go_simp; (try with_reducible rfl)⟩) (by assumption) ?_
  try simp only [Act.put, List.setIfInBounds_toArray, List.set_cons_zero, List.set_cons_succ]
  refine wpAnyH_take (i := 3) (oi := { dst := some 20, op := _, type := _, pos := _, after := _, guard := _ }) (v := .agg (mk 16 M)) rfl (by kernel_rfl) (by kernel_rfl) (by kernel_rfl) (fun _ _ _ h => h) (Or.inl ⟨by rfl, fun _ q => execB q rfl rfl⟩) (by assumption) ?_
  try simp only [Act.put, List.setIfInBounds_toArray, List.set_cons_zero, List.set_cons_succ]
  refine wpAnyH_ready (rs := [0, 10]) (by kernel_rfl) (by simp) ?_
  refine AllReadyH.cons rfl (fun K hK => ?_) ?_
  · go_simp
    refine (forms_any _).mono ?_
    rintro e y1 ⟨rfl, hb⟩
    have K4 := K4.below hb K4.lt
    have K5 := K5.below hb K5.lt
    have HB : Hid (Below w.heap.size w y1) := HB.out.trans (hb.mono HB.out.size)
    clear hb hHeld
    go_wp2_with fail
    refine hK.out _ _ K5 (fun hHeld => ?_)
    clear hK K
    try simp only [Act.put, List.setIfInBounds_toArray, List.set_cons_zero, List.set_cons_succ]
    refine wpAnyH_take (i := 2) (oi := { dst := some 19, op := _, type := _, pos := _, after := _, guard := _ }) (v := .func (.func 72) #[] #[]) rfl (by kernel_rfl) (by kernel_rfl) (by kernel_rfl) (fun _ _ _ h => h) (Or.inl ⟨by rfl, by intro W hSw; clear hSw; have iF := idxF5 W; go_simp⟩) (by assumption) ?_
    try simp only [Act.put, List.setIfInBounds_toArray, List.set_cons_zero, List.set_cons_succ]
    refine wpAnyH_ready (rs := [4, 10]) (by kernel_rfl) (by simp) ?_
    refine AllReadyH.cons rfl (fun K hK => ?_) ?_
    · go_simp
      refine (form5_any M _).mono ?_
      rintro e y2 ⟨rfl, hb⟩
      have K4 := K4.below hb K4.lt
      have K5 := K5.below hb K5.lt
      have HB : Hid (Below w.heap.size w y2) := HB.out.trans (hb.mono HB.out.size)
      clear hb hHeld
      go_wp2_with fail
      refine hK.out _ _ K5 (fun hHeld => ?_)
      clear hK K
      try simp only [Act.put, List.setIfInBounds_toArray, List.set_cons_zero, List.set_cons_succ]
      refine wpAnyH_ready (rs := [5, 10]) (by kernel_rfl) (by simp) ?_
      refine AllReadyH.cons rfl (fun K hK => ?_) ?_
      · go_simp
        refine (HH.out _).mono ?_
        rintro e y3 ⟨rfl, hb⟩
        have K4 := K4.below hb K4.lt
        have K5 := K5.below hb K5.lt
        have HB : Hid (Below w.heap.size w y3) := HB.out.trans (hb.mono HB.out.size)
        clear hb hHeld
        go_wp2_with fail
        refine hK.out _ _ K5 (fun hHeld => ?_)
        clear hK K
        try simp only [Act.put, List.setIfInBounds_toArray, List.set_cons_zero, List.set_cons_succ]
        refine wpAnyH_take (i := 6) (oi := { dst := some 16, op := _, type := _, pos := _, after := _, guard := _ }) (v := .tuple #[.int .i64 TT, .agg (mk 2 CC), .bool OO]) rfl (by kernel_rfl) (by kernel_rfl) (by kernel_rfl) (fun _ _ _ h => h) (Or.inl ⟨by rfl, by intro w hSw; clear hSw; go_simp; (try with_reducible rfl)⟩) (by assumption) ?_
        try simp only [Act.put, List.setIfInBounds_toArray, List.set_cons_zero, List.set_cons_succ]
        refine wpAnyH_take (i := 7) (oi := { dst := some 23, op := _, type := _, pos := _, after := _, guard := _ }) (v := .int .i64 TT) rfl (by kernel_rfl) (by kernel_rfl) (by kernel_rfl) (fun _ _ _ h => h) (Or.inl ⟨by rfl, by intro w hSw; clear hSw; go_simp; (try with_reducible rfl)⟩) (by assumption) ?_
        try simp only [Act.put, List.setIfInBounds_toArray, List.set_cons_zero, List.set_cons_succ]
        refine wpAnyH_take (i := 8) (oi := { dst := some 24, op := _, type := _, pos := _, after := _, guard := _ }) (v := .agg (mk 2 CC)) rfl (by kernel_rfl) (by kernel_rfl) (by kernel_rfl) (fun _ _ _ h => h) (Or.inl ⟨by rfl, by intro w hSw; clear hSw; go_simp; (try with_reducible rfl)⟩) (by assumption) ?_
        try simp only [Act.put, List.setIfInBounds_toArray, List.set_cons_zero, List.set_cons_succ]
        refine wpAnyH_take (i := 9) (oi := { dst := some 25, op := _, type := _, pos := _, after := _, guard := _ }) (v := .bool OO) rfl (by kernel_rfl) (by kernel_rfl) (by kernel_rfl) (fun _ _ _ h => h) (Or.inl ⟨by rfl, by intro w hSw; clear hSw; go_simp; (try with_reducible rfl)⟩) (by assumption) ?_
        try simp only [Act.put, List.setIfInBounds_toArray, List.set_cons_zero, List.set_cons_succ]
        refine wpAnyH_ready (rs := [10]) (by kernel_rfl) (by simp) ?_
        refine AllReadyH.cons rfl (fun K hK => ?_) AllReadyH.nil
        rw [if_pos (by rfl)]
        refine wp_allocC2 rfl ?_
        have K8 := Blk.new y3 2 (fun _ => 0) 22
        have H8 : Hid (w.heap.size + 1 < y3.heap.size ∧ b5 < y3.heap.size) := ⟨K4.lt, K5.lt⟩
        have K4 := K4.alloc (.cells (mk 2 fun _ => 0) 22)
        have K5 := K5.alloc (.cells (mk 2 fun _ => 0) 22)
        have HB : Hid (Below w.heap.size w (y3.alloc (.cells (mk 2 fun _ => 0) 22))) := HB.out.alloc HB.out.size _
        clear hHeld
        generalize y3.alloc (.cells (mk 2 fun _ => 0) 22) = y4 at *
        generalize y3.heap.size = b8 at *
        refine hK.out _ _ K5 (fun hHeld => ?_)
        clear hK K
        try simp only [Act.put, List.setIfInBounds_toArray, List.set_cons_zero, List.set_cons_succ]
        refine wpAnyH_take (i := 11) (oi := { dst := some 7, op := _, type := _, pos := _, after := _, guard := _ }) (v := .int .i64 TT) rfl (by kernel_rfl) (by kernel_rfl) (by kernel_rfl) (fun _ _ _ h => h) (Or.inl ⟨by rfl, by intro w hSw; clear hSw; go_simp; (try with_reducible rfl)⟩) (by assumption) ?_
        try simp only [Act.put, List.setIfInBounds_toArray, List.set_cons_zero, List.set_cons_succ]
        refine wpAnyH_ready (rs := [12]) (by kernel_rfl) (by simp) ?_
        refine AllReadyH.cons rfl (fun K hK => ?_) AllReadyH.nil
        rw [if_pos (by rfl)]
        refine wp_stC2 (off := 0) (g := CC) K8 (by omega) rfl rfl rfl ?_
        rw [HPT.out]
        have K4 := K4.rowOther b8 (mk 2 CC) (by have := H8.out; omega)
        have K5 := K5.rowOther b8 (mk 2 CC) (by have := H8.out; omega)
        have HB : Hid (Below w.heap.size w (y4.setRow b8 (mk 2 CC))) := below_setRow HB.out (by have := H8.out; omega) _
        have K8 := K8.row 2 CC
        generalize y4.setRow b8 (mk 2 CC) = z1 at *
        clear hHeld
        refine hK.out _ _ K5 (fun hHeld => ?_)
        clear hK K
        try simp only [Act.put, List.setIfInBounds_toArray, List.set_cons_zero, List.set_cons_succ]
        refine wpAnyH_take (i := 13) (oi := { dst := some 9, op := _, type := _, pos := _, after := _, guard := _ }) (v := .bool OO) rfl (by kernel_rfl) (by kernel_rfl) (by kernel_rfl) (fun _ _ _ h => h) (Or.inl ⟨by rfl, by intro w hSw; clear hSw; go_simp; (try with_reducible rfl)⟩) (by assumption) ?_
        try simp only [Act.put, List.setIfInBounds_toArray, List.set_cons_zero, List.set_cons_succ]
        refine wpAnyH_done (by kernel_rfl) ?_ _
        clear hHeld
        go_wp2_with (first | ((with_reducible show wpList _ _ _ (Oper.mk _ (Op.load 22 _) _ _ _ _ :: _) _ _); refine loadC (K8) rfl rfl rfl ?_) | ((with_reducible show wpList _ _ _ (Oper.mk _ (Op.store 22 _ _) _ _ _ _ :: _) _ _); refine storeC (K4) rfl rfl rfl rfl ?_))
        try simp only [Act.put, List.setIfInBounds_toArray, List.set_cons_zero, List.set_cons_succ]
        try simp only [Exit.inBlock, Exit.then]
        refine retcC (p := 4) (t := 22) (b := w.heap.size + 1) (f := CC) ?_ ?_ ?_ ?_ ?_
        · exact K4.row 2 CC
        · rfl
        · rfl
        · rfl
        · exact ⟨rfl, below_setRow HB.out (by omega) (mk 2 CC)⟩
      refine AllReadyH.cons rfl (fun K hK => ?_) AllReadyH.nil
      rw [if_pos (by rfl)]
      refine wp_allocC2 rfl ?_
      have K8 := Blk.new y2 2 (fun _ => 0) 22
      have H8 : Hid (w.heap.size + 1 < y2.heap.size ∧ b5 < y2.heap.size) := ⟨K4.lt, K5.lt⟩
      have K4 := K4.alloc (.cells (mk 2 fun _ => 0) 22)
      have K5 := K5.alloc (.cells (mk 2 fun _ => 0) 22)
      have HB : Hid (Below w.heap.size w (y2.alloc (.cells (mk 2 fun _ => 0) 22))) := HB.out.alloc HB.out.size _
      clear hHeld
      generalize y2.alloc (.cells (mk 2 fun _ => 0) 22) = y3 at *
      generalize y2.heap.size = b8 at *
      refine hK.out _ _ K5 (fun hHeld => ?_)
      clear hK K
      try simp only [Act.put, List.setIfInBounds_toArray, List.set_cons_zero, List.set_cons_succ]
      refine wpAnyH_ready (rs := [5]) (by kernel_rfl) (by simp) ?_
      refine AllReadyH.cons rfl (fun K hK => ?_) AllReadyH.nil
      go_simp
      refine (HH.out _).mono ?_
      rintro e y4 ⟨rfl, hb⟩
      have K4 := K4.below hb K4.lt
      have K5 := K5.below hb K5.lt
      have K8 := K8.below hb K8.lt
      have HB : Hid (Below w.heap.size w y4) := HB.out.trans (hb.mono HB.out.size)
      clear hb hHeld
      go_wp2_with fail
      refine hK.out _ _ K5 (fun hHeld => ?_)
      clear hK K
      try simp only [Act.put, List.setIfInBounds_toArray, List.set_cons_zero, List.set_cons_succ]
      refine wpAnyH_take (i := 6) (oi := { dst := some 16, op := _, type := _, pos := _, after := _, guard := _ }) (v := .tuple #[.int .i64 TT, .agg (mk 2 CC), .bool OO]) rfl (by kernel_rfl) (by kernel_rfl) (by kernel_rfl) (fun _ _ _ h => h) (Or.inl ⟨by rfl, by intro w hSw; clear hSw; go_simp; (try with_reducible rfl)⟩) (by assumption) ?_
      try simp only [Act.put, List.setIfInBounds_toArray, List.set_cons_zero, List.set_cons_succ]
      refine wpAnyH_take (i := 7) (oi := { dst := some 23, op := _, type := _, pos := _, after := _, guard := _ }) (v := .int .i64 TT) rfl (by kernel_rfl) (by kernel_rfl) (by kernel_rfl) (fun _ _ _ h => h) (Or.inl ⟨by rfl, by intro w hSw; clear hSw; go_simp; (try with_reducible rfl)⟩) (by assumption) ?_
      try simp only [Act.put, List.setIfInBounds_toArray, List.set_cons_zero, List.set_cons_succ]
      refine wpAnyH_take (i := 8) (oi := { dst := some 24, op := _, type := _, pos := _, after := _, guard := _ }) (v := .agg (mk 2 CC)) rfl (by kernel_rfl) (by kernel_rfl) (by kernel_rfl) (fun _ _ _ h => h) (Or.inl ⟨by rfl, by intro w hSw; clear hSw; go_simp; (try with_reducible rfl)⟩) (by assumption) ?_
      try simp only [Act.put, List.setIfInBounds_toArray, List.set_cons_zero, List.set_cons_succ]
      refine wpAnyH_take (i := 9) (oi := { dst := some 25, op := _, type := _, pos := _, after := _, guard := _ }) (v := .bool OO) rfl (by kernel_rfl) (by kernel_rfl) (by kernel_rfl) (fun _ _ _ h => h) (Or.inl ⟨by rfl, by intro w hSw; clear hSw; go_simp; (try with_reducible rfl)⟩) (by assumption) ?_
      try simp only [Act.put, List.setIfInBounds_toArray, List.set_cons_zero, List.set_cons_succ]
      refine wpAnyH_take (i := 11) (oi := { dst := some 7, op := _, type := _, pos := _, after := _, guard := _ }) (v := .int .i64 TT) rfl (by kernel_rfl) (by kernel_rfl) (by kernel_rfl) (fun _ _ _ h => h) (Or.inl ⟨by rfl, by intro w hSw; clear hSw; go_simp; (try with_reducible rfl)⟩) (by assumption) ?_
      try simp only [Act.put, List.setIfInBounds_toArray, List.set_cons_zero, List.set_cons_succ]
      refine wpAnyH_ready (rs := [12]) (by kernel_rfl) (by simp) ?_
      refine AllReadyH.cons rfl (fun K hK => ?_) AllReadyH.nil
      rw [if_pos (by rfl)]
      refine wp_stC2 (off := 0) (g := CC) K8 (by omega) rfl rfl rfl ?_
      rw [HPT.out]
      have K4 := K4.rowOther b8 (mk 2 CC) (by have := H8.out; omega)
      have K5 := K5.rowOther b8 (mk 2 CC) (by have := H8.out; omega)
      have HB : Hid (Below w.heap.size w (y4.setRow b8 (mk 2 CC))) := below_setRow HB.out (by have := H8.out; omega) _
      have K8 := K8.row 2 CC
      generalize y4.setRow b8 (mk 2 CC) = z1 at *
      clear hHeld
      refine hK.out _ _ K5 (fun hHeld => ?_)
      clear hK K
      try simp only [Act.put, List.setIfInBounds_toArray, List.set_cons_zero, List.set_cons_succ]
      refine wpAnyH_take (i := 13) (oi := { dst := some 9, op := _, type := _, pos := _, after := _, guard := _ }) (v := .bool OO) rfl (by kernel_rfl) (by kernel_rfl) (by kernel_rfl) (fun _ _ _ h => h) (Or.inl ⟨by rfl, by intro w hSw; clear hSw; go_simp; (try with_reducible rfl)⟩) (by assumption) ?_
      try simp only [Act.put, List.setIfInBounds_toArray, List.set_cons_zero, List.set_cons_succ]
      refine wpAnyH_done (by kernel_rfl) ?_ _
      clear hHeld
      go_wp2_with (first | ((with_reducible show wpList _ _ _ (Oper.mk _ (Op.load 22 _) _ _ _ _ :: _) _ _); refine loadC (K8) rfl rfl rfl ?_) | ((with_reducible show wpList _ _ _ (Oper.mk _ (Op.store 22 _ _) _ _ _ _ :: _) _ _); refine storeC (K4) rfl rfl rfl rfl ?_))
      try simp only [Act.put, List.setIfInBounds_toArray, List.set_cons_zero, List.set_cons_succ]
      try simp only [Exit.inBlock, Exit.then]
      refine retcC (p := 4) (t := 22) (b := w.heap.size + 1) (f := CC) ?_ ?_ ?_ ?_ ?_
      · exact K4.row 2 CC
      · rfl
      · rfl
      · rfl
      · exact ⟨rfl, below_setRow HB.out (by omega) (mk 2 CC)⟩
    refine AllReadyH.cons rfl (fun K hK => ?_) AllReadyH.nil
    rw [if_pos (by rfl)]
    refine wp_allocC2 rfl ?_
    have K8 := Blk.new y1 2 (fun _ => 0) 22
    have H8 : Hid (w.heap.size + 1 < y1.heap.size ∧ b5 < y1.heap.size) := ⟨K4.lt, K5.lt⟩
    have K4 := K4.alloc (.cells (mk 2 fun _ => 0) 22)
    have K5 := K5.alloc (.cells (mk 2 fun _ => 0) 22)
    have HB : Hid (Below w.heap.size w (y1.alloc (.cells (mk 2 fun _ => 0) 22))) := HB.out.alloc HB.out.size _
    clear hHeld
    generalize y1.alloc (.cells (mk 2 fun _ => 0) 22) = y2 at *
    generalize y1.heap.size = b8 at *
    refine hK.out _ _ K5 (fun hHeld => ?_)
    clear hK K
    try simp only [Act.put, List.setIfInBounds_toArray, List.set_cons_zero, List.set_cons_succ]
    refine wpAnyH_ready (rs := [4]) (by kernel_rfl) (by simp) ?_
    refine AllReadyH.cons rfl (fun K hK => ?_) AllReadyH.nil
    go_simp
    refine (form5_any M _).mono ?_
    rintro e y3 ⟨rfl, hb⟩
    have K4 := K4.below hb K4.lt
    have K5 := K5.below hb K5.lt
    have K8 := K8.below hb K8.lt
    have HB : Hid (Below w.heap.size w y3) := HB.out.trans (hb.mono HB.out.size)
    clear hb hHeld
    go_wp2_with fail
    refine hK.out _ _ K5 (fun hHeld => ?_)
    clear hK K
    try simp only [Act.put, List.setIfInBounds_toArray, List.set_cons_zero, List.set_cons_succ]
    refine wpAnyH_ready (rs := [5]) (by kernel_rfl) (by simp) ?_
    refine AllReadyH.cons rfl (fun K hK => ?_) AllReadyH.nil
    go_simp
    refine (HH.out _).mono ?_
    rintro e y4 ⟨rfl, hb⟩
    have K4 := K4.below hb K4.lt
    have K5 := K5.below hb K5.lt
    have K8 := K8.below hb K8.lt
    have HB : Hid (Below w.heap.size w y4) := HB.out.trans (hb.mono HB.out.size)
    clear hb hHeld
    go_wp2_with fail
    refine hK.out _ _ K5 (fun hHeld => ?_)
    clear hK K
    try simp only [Act.put, List.setIfInBounds_toArray, List.set_cons_zero, List.set_cons_succ]
    refine wpAnyH_take (i := 6) (oi := { dst := some 16, op := _, type := _, pos := _, after := _, guard := _ }) (v := .tuple #[.int .i64 TT, .agg (mk 2 CC), .bool OO]) rfl (by kernel_rfl) (by kernel_rfl) (by kernel_rfl) (fun _ _ _ h => h) (Or.inl ⟨by rfl, by intro w hSw; clear hSw; go_simp; (try with_reducible rfl)⟩) (by assumption) ?_
    try simp only [Act.put, List.setIfInBounds_toArray, List.set_cons_zero, List.set_cons_succ]
    refine wpAnyH_take (i := 7) (oi := { dst := some 23, op := _, type := _, pos := _, after := _, guard := _ }) (v := .int .i64 TT) rfl (by kernel_rfl) (by kernel_rfl) (by kernel_rfl) (fun _ _ _ h => h) (Or.inl ⟨by rfl, by intro w hSw; clear hSw; go_simp; (try with_reducible rfl)⟩) (by assumption) ?_
    try simp only [Act.put, List.setIfInBounds_toArray, List.set_cons_zero, List.set_cons_succ]
    refine wpAnyH_take (i := 8) (oi := { dst := some 24, op := _, type := _, pos := _, after := _, guard := _ }) (v := .agg (mk 2 CC)) rfl (by kernel_rfl) (by kernel_rfl) (by kernel_rfl) (fun _ _ _ h => h) (Or.inl ⟨by rfl, by intro w hSw; clear hSw; go_simp; (try with_reducible rfl)⟩) (by assumption) ?_
    try simp only [Act.put, List.setIfInBounds_toArray, List.set_cons_zero, List.set_cons_succ]
    refine wpAnyH_take (i := 9) (oi := { dst := some 25, op := _, type := _, pos := _, after := _, guard := _ }) (v := .bool OO) rfl (by kernel_rfl) (by kernel_rfl) (by kernel_rfl) (fun _ _ _ h => h) (Or.inl ⟨by rfl, by intro w hSw; clear hSw; go_simp; (try with_reducible rfl)⟩) (by assumption) ?_
    try simp only [Act.put, List.setIfInBounds_toArray, List.set_cons_zero, List.set_cons_succ]
    refine wpAnyH_take (i := 11) (oi := { dst := some 7, op := _, type := _, pos := _, after := _, guard := _ }) (v := .int .i64 TT) rfl (by kernel_rfl) (by kernel_rfl) (by kernel_rfl) (fun _ _ _ h => h) (Or.inl ⟨by rfl, by intro w hSw; clear hSw; go_simp; (try with_reducible rfl)⟩) (by assumption) ?_
    try simp only [Act.put, List.setIfInBounds_toArray, List.set_cons_zero, List.set_cons_succ]
    refine wpAnyH_ready (rs := [12]) (by kernel_rfl) (by simp) ?_
    refine AllReadyH.cons rfl (fun K hK => ?_) AllReadyH.nil
    rw [if_pos (by rfl)]
    refine wp_stC2 (off := 0) (g := CC) K8 (by omega) rfl rfl rfl ?_
    rw [HPT.out]
    have K4 := K4.rowOther b8 (mk 2 CC) (by have := H8.out; omega)
    have K5 := K5.rowOther b8 (mk 2 CC) (by have := H8.out; omega)
    have HB : Hid (Below w.heap.size w (y4.setRow b8 (mk 2 CC))) := below_setRow HB.out (by have := H8.out; omega) _
    have K8 := K8.row 2 CC
    generalize y4.setRow b8 (mk 2 CC) = z1 at *
    clear hHeld
    refine hK.out _ _ K5 (fun hHeld => ?_)
    clear hK K
    try simp only [Act.put, List.setIfInBounds_toArray, List.set_cons_zero, List.set_cons_succ]
    refine wpAnyH_take (i := 13) (oi := { dst := some 9, op := _, type := _, pos := _, after := _, guard := _ }) (v := .bool OO) rfl (by kernel_rfl) (by kernel_rfl) (by kernel_rfl) (fun _ _ _ h => h) (Or.inl ⟨by rfl, by intro w hSw; clear hSw; go_simp; (try with_reducible rfl)⟩) (by assumption) ?_
    try simp only [Act.put, List.setIfInBounds_toArray, List.set_cons_zero, List.set_cons_succ]
    refine wpAnyH_done (by kernel_rfl) ?_ _
    clear hHeld
    go_wp2_with (first | ((with_reducible show wpList _ _ _ (Oper.mk _ (Op.load 22 _) _ _ _ _ :: _) _ _); refine loadC (K8) rfl rfl rfl ?_) | ((with_reducible show wpList _ _ _ (Oper.mk _ (Op.store 22 _ _) _ _ _ _ :: _) _ _); refine storeC (K4) rfl rfl rfl rfl ?_))
    try simp only [Act.put, List.setIfInBounds_toArray, List.set_cons_zero, List.set_cons_succ]
    try simp only [Exit.inBlock, Exit.then]
    refine retcC (p := 4) (t := 22) (b := w.heap.size + 1) (f := CC) ?_ ?_ ?_ ?_ ?_
    · exact K4.row 2 CC
    · rfl
    · rfl
    · rfl
    · exact ⟨rfl, below_setRow HB.out (by omega) (mk 2 CC)⟩
  refine AllReadyH.cons rfl (fun K hK => ?_) AllReadyH.nil
  rw [if_pos (by rfl)]
  refine wp_allocC2 rfl ?_
  have K8 := Blk.new y0 2 (fun _ => 0) 22
  have H8 : Hid (w.heap.size + 1 < y0.heap.size ∧ b5 < y0.heap.size) := ⟨K4.lt, K5.lt⟩
  have K4 := K4.alloc (.cells (mk 2 fun _ => 0) 22)
  have K5 := K5.alloc (.cells (mk 2 fun _ => 0) 22)
  have HB : Hid (Below w.heap.size w (y0.alloc (.cells (mk 2 fun _ => 0) 22))) := HB.out.alloc HB.out.size _
  clear hHeld
  generalize y0.alloc (.cells (mk 2 fun _ => 0) 22) = y1 at *
  generalize y0.heap.size = b8 at *
  refine hK.out _ _ K5 (fun hHeld => ?_)
  clear hK K
  try simp only [Act.put, List.setIfInBounds_toArray, List.set_cons_zero, List.set_cons_succ]
  refine wpAnyH_ready (rs := [0]) (by kernel_rfl) (by simp) ?_
  refine AllReadyH.cons rfl (fun K hK => ?_) AllReadyH.nil
  go_simp
  refine (forms_any _).mono ?_
  rintro e y2 ⟨rfl, hb⟩
  have K4 := K4.below hb K4.lt
  have K5 := K5.below hb K5.lt
  have K8 := K8.below hb K8.lt
  have HB : Hid (Below w.heap.size w y2) := HB.out.trans (hb.mono HB.out.size)
  clear hb hHeld
  go_wp2_with fail
  refine hK.out _ _ K5 (fun hHeld => ?_)
  clear hK K
  try simp only [Act.put, List.setIfInBounds_toArray, List.set_cons_zero, List.set_cons_succ]
  refine wpAnyH_take (i := 2) (oi := { dst := some 19, op := _, type := _, pos := _, after := _, guard := _ }) (v := .func (.func 72) #[] #[]) rfl (by kernel_rfl) (by kernel_rfl) (by kernel_rfl) (fun _ _ _ h => h) (Or.inl ⟨by rfl, by intro W hSw; clear hSw; have iF := idxF5 W; go_simp⟩) (by assumption) ?_
  try simp only [Act.put, List.setIfInBounds_toArray, List.set_cons_zero, List.set_cons_succ]
  refine wpAnyH_ready (rs := [4]) (by kernel_rfl) (by simp) ?_
  refine AllReadyH.cons rfl (fun K hK => ?_) AllReadyH.nil
  go_simp
  refine (form5_any M _).mono ?_
  rintro e y3 ⟨rfl, hb⟩
  have K4 := K4.below hb K4.lt
  have K5 := K5.below hb K5.lt
  have K8 := K8.below hb K8.lt
  have HB : Hid (Below w.heap.size w y3) := HB.out.trans (hb.mono HB.out.size)
  clear hb hHeld
  go_wp2_with fail
  refine hK.out _ _ K5 (fun hHeld => ?_)
  clear hK K
  try simp only [Act.put, List.setIfInBounds_toArray, List.set_cons_zero, List.set_cons_succ]
  refine wpAnyH_ready (rs := [5]) (by kernel_rfl) (by simp) ?_
  refine AllReadyH.cons rfl (fun K hK => ?_) AllReadyH.nil
  go_simp
  refine (HH.out _).mono ?_
  rintro e y4 ⟨rfl, hb⟩
  have K4 := K4.below hb K4.lt
  have K5 := K5.below hb K5.lt
  have K8 := K8.below hb K8.lt
  have HB : Hid (Below w.heap.size w y4) := HB.out.trans (hb.mono HB.out.size)
  clear hb hHeld
  go_wp2_with fail
  refine hK.out _ _ K5 (fun hHeld => ?_)
  clear hK K
  try simp only [Act.put, List.setIfInBounds_toArray, List.set_cons_zero, List.set_cons_succ]
  refine wpAnyH_take (i := 6) (oi := { dst := some 16, op := _, type := _, pos := _, after := _, guard := _ }) (v := .tuple #[.int .i64 TT, .agg (mk 2 CC), .bool OO]) rfl (by kernel_rfl) (by kernel_rfl) (by kernel_rfl) (fun _ _ _ h => h) (Or.inl ⟨by rfl, by intro w hSw; clear hSw; go_simp; (try with_reducible rfl)⟩) (by assumption) ?_
  try simp only [Act.put, List.setIfInBounds_toArray, List.set_cons_zero, List.set_cons_succ]
  refine wpAnyH_take (i := 7) (oi := { dst := some 23, op := _, type := _, pos := _, after := _, guard := _ }) (v := .int .i64 TT) rfl (by kernel_rfl) (by kernel_rfl) (by kernel_rfl) (fun _ _ _ h => h) (Or.inl ⟨by rfl, by intro w hSw; clear hSw; go_simp; (try with_reducible rfl)⟩) (by assumption) ?_
  try simp only [Act.put, List.setIfInBounds_toArray, List.set_cons_zero, List.set_cons_succ]
  refine wpAnyH_take (i := 8) (oi := { dst := some 24, op := _, type := _, pos := _, after := _, guard := _ }) (v := .agg (mk 2 CC)) rfl (by kernel_rfl) (by kernel_rfl) (by kernel_rfl) (fun _ _ _ h => h) (Or.inl ⟨by rfl, by intro w hSw; clear hSw; go_simp; (try with_reducible rfl)⟩) (by assumption) ?_
  try simp only [Act.put, List.setIfInBounds_toArray, List.set_cons_zero, List.set_cons_succ]
  refine wpAnyH_take (i := 9) (oi := { dst := some 25, op := _, type := _, pos := _, after := _, guard := _ }) (v := .bool OO) rfl (by kernel_rfl) (by kernel_rfl) (by kernel_rfl) (fun _ _ _ h => h) (Or.inl ⟨by rfl, by intro w hSw; clear hSw; go_simp; (try with_reducible rfl)⟩) (by assumption) ?_
  try simp only [Act.put, List.setIfInBounds_toArray, List.set_cons_zero, List.set_cons_succ]
  refine wpAnyH_take (i := 11) (oi := { dst := some 7, op := _, type := _, pos := _, after := _, guard := _ }) (v := .int .i64 TT) rfl (by kernel_rfl) (by kernel_rfl) (by kernel_rfl) (fun _ _ _ h => h) (Or.inl ⟨by rfl, by intro w hSw; clear hSw; go_simp; (try with_reducible rfl)⟩) (by assumption) ?_
  try simp only [Act.put, List.setIfInBounds_toArray, List.set_cons_zero, List.set_cons_succ]
  refine wpAnyH_ready (rs := [12]) (by kernel_rfl) (by simp) ?_
  refine AllReadyH.cons rfl (fun K hK => ?_) AllReadyH.nil
  rw [if_pos (by rfl)]
  refine wp_stC2 (off := 0) (g := CC) K8 (by omega) rfl rfl rfl ?_
  rw [HPT.out]
  have K4 := K4.rowOther b8 (mk 2 CC) (by have := H8.out; omega)
  have K5 := K5.rowOther b8 (mk 2 CC) (by have := H8.out; omega)
  have HB : Hid (Below w.heap.size w (y4.setRow b8 (mk 2 CC))) := below_setRow HB.out (by have := H8.out; omega) _
  have K8 := K8.row 2 CC
  generalize y4.setRow b8 (mk 2 CC) = z1 at *
  clear hHeld
  refine hK.out _ _ K5 (fun hHeld => ?_)
  clear hK K
  try simp only [Act.put, List.setIfInBounds_toArray, List.set_cons_zero, List.set_cons_succ]
  refine wpAnyH_take (i := 13) (oi := { dst := some 9, op := _, type := _, pos := _, after := _, guard := _ }) (v := .bool OO) rfl (by kernel_rfl) (by kernel_rfl) (by kernel_rfl) (fun _ _ _ h => h) (Or.inl ⟨by rfl, by intro w hSw; clear hSw; go_simp; (try with_reducible rfl)⟩) (by assumption) ?_
  try simp only [Act.put, List.setIfInBounds_toArray, List.set_cons_zero, List.set_cons_succ]
  refine wpAnyH_done (by kernel_rfl) ?_ _
  clear hHeld
  go_wp2_with (first | ((with_reducible show wpList _ _ _ (Oper.mk _ (Op.load 22 _) _ _ _ _ :: _) _ _); refine loadC (K8) rfl rfl rfl ?_) | ((with_reducible show wpList _ _ _ (Oper.mk _ (Op.store 22 _ _) _ _ _ _ :: _) _ _); refine storeC (K4) rfl rfl rfl rfl ?_))
  try simp only [Act.put, List.setIfInBounds_toArray, List.set_cons_zero, List.set_cons_succ]
  try simp only [Exit.inBlock, Exit.then]
  refine retcC (p := 4) (t := 22) (b := w.heap.size + 1) (f := CC) ?_ ?_ ?_ ?_ ?_
  · exact K4.row 2 CC
  · rfl
  · rfl
  · rfl
  · exact ⟨rfl, below_setRow HB.out (by omega) (mk 2 CC)⟩
set_option maxHeartbeats 4000000 in
set_option maxRecDepth 20000 in
theorem formCell6_any (R C : Nat) (hR : R < 4) (hC : C < 4) (w : World) :
    Calls Try.prog 48 #[.agg (mk 2 (two (R : Int) (C : Int))), .int .i64 6] w fun e w' => e = .returned (.agg (mk 2 (cellF (fcP (R * 4 + C) 6)))) ∧ Below w.heap.size w w' := by
  have z16 := zero16
  have z2 := zero2
  have HP := Lib.hid (fun w => putOne R C hR hC w)
  have HH := Lib.hid (fun w => highOne (R * 4 + C) 6 w)
  clear hR hC
  have K2 := (Blk.new w 2 (two (R : Int) (C : Int)) 22).alloc (.cells (mk 2 fun _ => 0) 22)
  have K4 := Blk.new (w.alloc (.cells (mk 2 (two (R : Int) (C : Int))) 22)) 2 (fun _ => 0) 22
  simp only [World.size_alloc] at K4
  have HB := Lib.hid (((Below.refl w.heap.size w).alloc (Nat.le_refl _) (.cells (mk 2 (two (R : Int) (C : Int))) 22)).alloc (by simp) (.cells (mk 2 fun _ => 0) 22))
  generalize hM : upd (fun _ => 0) (R * 4 + C) 1 = M at *
  generalize hiT (formF M 6) = TT at *
  generalize hiO (formF M 6) = OO at *
  generalize cellF (fcP (R * 4 + C) 6) = CC at *
  have HPT : Hid (mk 2 (patch (fun _ => 0) 0 2 CC) = mk 2 CC) := mk_congr fun j hj => by unfold patch; rw [if_pos (by omega), Nat.sub_zero]
  clear hM
  go_enter Try.func48, Try.ntmps48
  go_wp2_with ((with_reducible show wpList _ _ _ (Oper.mk _ (Op.load 22 _) _ _ _ _ :: _) _ _); refine loadC (K2) rfl rfl rfl ?_)
  refine (HP.out _).mono ?_
  rintro e w2 ⟨rfl, hb⟩
  have hlt := K4.lt
  have K4 := K4.below hb K4.lt
  have H5 : Hid (w.heap.size + 1 < w2.heap.size) := K4.lt
  have HB := HB.out.trans (hb.mono HB.out.size)
  have HB : Hid (Below w.heap.size w (w2.alloc (.cells (mk 16 M) 35))) := HB.alloc HB.size _
  have K4 := K4.alloc (.cells (mk 16 M) 35)
  have K5 := Blk.new w2 16 M 35
  clear hb HP K2 hlt
  go_wp2_with fail
  generalize w2.alloc (.cells (mk 16 M) 35) = w3 at *
  generalize w2.heap.size = b5 at *
  refine wp_region_held_drew (S := fun W => Blk W b5 16 M 35) (by kernel_rfl) (K5.drew) (fun hHeld => ?_)
  have K4 := K4.drew
  have K5 : Blk w3.drew b5 16 M 35 := K5.drew
  have HB : Hid (Below w.heap.size w w3.drew) := HB.out.drew
  generalize w3.drew = y0 at *
  refine wpAnyH_take (i := 1) (oi := { dst := some 18, op := _, type := _, pos := _, after := _, guard := _ }) (v := .int .i64 6) rfl (by kernel_rfl) (by kernel_rfl) (by kernel_rfl) (fun _ _ _ h => h) (Or.inl ⟨by rfl, by intro w hSw; clear hSw; go_simp; (try with_reducible rfl)⟩) (by assumption) ?_
  try simp only [Act.put, List.setIfInBounds_toArray, List.set_cons_zero, List.set_cons_succ]
  refine wpAnyH_take (i := 3) (oi := { dst := some 20, op := _, type := _, pos := _, after := _, guard := _ }) (v := .agg (mk 16 M)) rfl (by kernel_rfl) (by kernel_rfl) (by kernel_rfl) (fun _ _ _ h => h) (Or.inl ⟨by rfl, fun _ q => execB q rfl rfl⟩) (by assumption) ?_
  try simp only [Act.put, List.setIfInBounds_toArray, List.set_cons_zero, List.set_cons_succ]
  refine wpAnyH_ready (rs := [0, 10]) (by kernel_rfl) (by simp) ?_
  refine AllReadyH.cons rfl (fun K hK => ?_) ?_
  · go_simp
    refine (forms_any _).mono ?_
    rintro e y1 ⟨rfl, hb⟩
    have K4 := K4.below hb K4.lt
    have K5 := K5.below hb K5.lt
    have HB : Hid (Below w.heap.size w y1) := HB.out.trans (hb.mono HB.out.size)
    clear hb hHeld
    go_wp2_with fail
    refine hK.out _ _ K5 (fun hHeld => ?_)
    clear hK K
    try simp only [Act.put, List.setIfInBounds_toArray, List.set_cons_zero, List.set_cons_succ]
    refine wpAnyH_take (i := 2) (oi := { dst := some 19, op := _, type := _, pos := _, after := _, guard := _ }) (v := .func (.func 73) #[] #[]) rfl (by kernel_rfl) (by kernel_rfl) (by kernel_rfl) (fun _ _ _ h => h) (Or.inl ⟨by rfl, by intro W hSw; clear hSw; have iF := idxF6 W; go_simp⟩) (by assumption) ?_
    try simp only [Act.put, List.setIfInBounds_toArray, List.set_cons_zero, List.set_cons_succ]
    refine wpAnyH_ready (rs := [4, 10]) (by kernel_rfl) (by simp) ?_
    refine AllReadyH.cons rfl (fun K hK => ?_) ?_
    · go_simp
      refine (form6_any M _).mono ?_
      rintro e y2 ⟨rfl, hb⟩
      have K4 := K4.below hb K4.lt
      have K5 := K5.below hb K5.lt
      have HB : Hid (Below w.heap.size w y2) := HB.out.trans (hb.mono HB.out.size)
      clear hb hHeld
      go_wp2_with fail
      refine hK.out _ _ K5 (fun hHeld => ?_)
      clear hK K
      try simp only [Act.put, List.setIfInBounds_toArray, List.set_cons_zero, List.set_cons_succ]
      refine wpAnyH_ready (rs := [5, 10]) (by kernel_rfl) (by simp) ?_
      refine AllReadyH.cons rfl (fun K hK => ?_) ?_
      · go_simp
        refine (HH.out _).mono ?_
        rintro e y3 ⟨rfl, hb⟩
        have K4 := K4.below hb K4.lt
        have K5 := K5.below hb K5.lt
        have HB : Hid (Below w.heap.size w y3) := HB.out.trans (hb.mono HB.out.size)
        clear hb hHeld
        go_wp2_with fail
        refine hK.out _ _ K5 (fun hHeld => ?_)
        clear hK K
        try simp only [Act.put, List.setIfInBounds_toArray, List.set_cons_zero, List.set_cons_succ]
        refine wpAnyH_take (i := 6) (oi := { dst := some 16, op := _, type := _, pos := _, after := _, guard := _ }) (v := .tuple #[.int .i64 TT, .agg (mk 2 CC), .bool OO]) rfl (by kernel_rfl) (by kernel_rfl) (by kernel_rfl) (fun _ _ _ h => h) (Or.inl ⟨by rfl, by intro w hSw; clear hSw; go_simp; (try with_reducible rfl)⟩) (by assumption) ?_
        try simp only [Act.put, List.setIfInBounds_toArray, List.set_cons_zero, List.set_cons_succ]
        refine wpAnyH_take (i := 7) (oi := { dst := some 23, op := _, type := _, pos := _, after := _, guard := _ }) (v := .int .i64 TT) rfl (by kernel_rfl) (by kernel_rfl) (by kernel_rfl) (fun _ _ _ h => h) (Or.inl ⟨by rfl, by intro w hSw; clear hSw; go_simp; (try with_reducible rfl)⟩) (by assumption) ?_
        try simp only [Act.put, List.setIfInBounds_toArray, List.set_cons_zero, List.set_cons_succ]
        refine wpAnyH_take (i := 8) (oi := { dst := some 24, op := _, type := _, pos := _, after := _, guard := _ }) (v := .agg (mk 2 CC)) rfl (by kernel_rfl) (by kernel_rfl) (by kernel_rfl) (fun _ _ _ h => h) (Or.inl ⟨by rfl, by intro w hSw; clear hSw; go_simp; (try with_reducible rfl)⟩) (by assumption) ?_
        try simp only [Act.put, List.setIfInBounds_toArray, List.set_cons_zero, List.set_cons_succ]
        refine wpAnyH_take (i := 9) (oi := { dst := some 25, op := _, type := _, pos := _, after := _, guard := _ }) (v := .bool OO) rfl (by kernel_rfl) (by kernel_rfl) (by kernel_rfl) (fun _ _ _ h => h) (Or.inl ⟨by rfl, by intro w hSw; clear hSw; go_simp; (try with_reducible rfl)⟩) (by assumption) ?_
        try simp only [Act.put, List.setIfInBounds_toArray, List.set_cons_zero, List.set_cons_succ]
        refine wpAnyH_ready (rs := [10]) (by kernel_rfl) (by simp) ?_
        refine AllReadyH.cons rfl (fun K hK => ?_) AllReadyH.nil
        rw [if_pos (by rfl)]
        refine wp_allocC2 rfl ?_
        have K8 := Blk.new y3 2 (fun _ => 0) 22
        have H8 : Hid (w.heap.size + 1 < y3.heap.size ∧ b5 < y3.heap.size) := ⟨K4.lt, K5.lt⟩
        have K4 := K4.alloc (.cells (mk 2 fun _ => 0) 22)
        have K5 := K5.alloc (.cells (mk 2 fun _ => 0) 22)
        have HB : Hid (Below w.heap.size w (y3.alloc (.cells (mk 2 fun _ => 0) 22))) := HB.out.alloc HB.out.size _
        clear hHeld
        generalize y3.alloc (.cells (mk 2 fun _ => 0) 22) = y4 at *
        generalize y3.heap.size = b8 at *
        refine hK.out _ _ K5 (fun hHeld => ?_)
        clear hK K
        try simp only [Act.put, List.setIfInBounds_toArray, List.set_cons_zero, List.set_cons_succ]
        refine wpAnyH_take (i := 11) (oi := { dst := some 7, op := _, type := _, pos := _, after := _, guard := _ }) (v := .int .i64 TT) rfl (by kernel_rfl) (by kernel_rfl) (by kernel_rfl) (fun _ _ _ h => h) (Or.inl ⟨by rfl, by intro w hSw; clear hSw; go_simp; (try with_reducible rfl)⟩) (by assumption) ?_
        try simp only [Act.put, List.setIfInBounds_toArray, List.set_cons_zero, List.set_cons_succ]
        refine wpAnyH_ready (rs := [12]) (by kernel_rfl) (by simp) ?_
        refine AllReadyH.cons rfl (fun K hK => ?_) AllReadyH.nil
        rw [if_pos (by rfl)]
        refine wp_stC2 (off := 0) (g := CC) K8 (by omega) rfl rfl rfl ?_
        rw [HPT.out]
        have K4 := K4.rowOther b8 (mk 2 CC) (by have := H8.out; omega)
        have K5 := K5.rowOther b8 (mk 2 CC) (by have := H8.out; omega)
        have HB : Hid (Below w.heap.size w (y4.setRow b8 (mk 2 CC))) := below_setRow HB.out (by have := H8.out; omega) _
        have K8 := K8.row 2 CC
        generalize y4.setRow b8 (mk 2 CC) = z1 at *
        clear hHeld
        refine hK.out _ _ K5 (fun hHeld => ?_)
        clear hK K
        try simp only [Act.put, List.setIfInBounds_toArray, List.set_cons_zero, List.set_cons_succ]
        refine wpAnyH_take (i := 13) (oi := { dst := some 9, op := _, type := _, pos := _, after := _, guard := _ }) (v := .bool OO) rfl (by kernel_rfl) (by kernel_rfl) (by kernel_rfl) (fun _ _ _ h => h) (Or.inl ⟨by rfl, by intro w hSw; clear hSw; go_simp; (try with_reducible rfl)⟩) (by assumption) ?_
        try simp only [Act.put, List.setIfInBounds_toArray, List.set_cons_zero, List.set_cons_succ]
        refine wpAnyH_done (by kernel_rfl) ?_ _
        clear hHeld
        go_wp2_with (first | ((with_reducible show wpList _ _ _ (Oper.mk _ (Op.load 22 _) _ _ _ _ :: _) _ _); refine loadC (K8) rfl rfl rfl ?_) | ((with_reducible show wpList _ _ _ (Oper.mk _ (Op.store 22 _ _) _ _ _ _ :: _) _ _); refine storeC (K4) rfl rfl rfl rfl ?_))
        try simp only [Act.put, List.setIfInBounds_toArray, List.set_cons_zero, List.set_cons_succ]
        try simp only [Exit.inBlock, Exit.then]
        refine retcC (p := 4) (t := 22) (b := w.heap.size + 1) (f := CC) ?_ ?_ ?_ ?_ ?_
        · exact K4.row 2 CC
        · rfl
        · rfl
        · rfl
        · exact ⟨rfl, below_setRow HB.out (by omega) (mk 2 CC)⟩
      refine AllReadyH.cons rfl (fun K hK => ?_) AllReadyH.nil
      rw [if_pos (by rfl)]
      refine wp_allocC2 rfl ?_
      have K8 := Blk.new y2 2 (fun _ => 0) 22
      have H8 : Hid (w.heap.size + 1 < y2.heap.size ∧ b5 < y2.heap.size) := ⟨K4.lt, K5.lt⟩
      have K4 := K4.alloc (.cells (mk 2 fun _ => 0) 22)
      have K5 := K5.alloc (.cells (mk 2 fun _ => 0) 22)
      have HB : Hid (Below w.heap.size w (y2.alloc (.cells (mk 2 fun _ => 0) 22))) := HB.out.alloc HB.out.size _
      clear hHeld
      generalize y2.alloc (.cells (mk 2 fun _ => 0) 22) = y3 at *
      generalize y2.heap.size = b8 at *
      refine hK.out _ _ K5 (fun hHeld => ?_)
      clear hK K
      try simp only [Act.put, List.setIfInBounds_toArray, List.set_cons_zero, List.set_cons_succ]
      refine wpAnyH_ready (rs := [5]) (by kernel_rfl) (by simp) ?_
      refine AllReadyH.cons rfl (fun K hK => ?_) AllReadyH.nil
      go_simp
      refine (HH.out _).mono ?_
      rintro e y4 ⟨rfl, hb⟩
      have K4 := K4.below hb K4.lt
      have K5 := K5.below hb K5.lt
      have K8 := K8.below hb K8.lt
      have HB : Hid (Below w.heap.size w y4) := HB.out.trans (hb.mono HB.out.size)
      clear hb hHeld
      go_wp2_with fail
      refine hK.out _ _ K5 (fun hHeld => ?_)
      clear hK K
      try simp only [Act.put, List.setIfInBounds_toArray, List.set_cons_zero, List.set_cons_succ]
      refine wpAnyH_take (i := 6) (oi := { dst := some 16, op := _, type := _, pos := _, after := _, guard := _ }) (v := .tuple #[.int .i64 TT, .agg (mk 2 CC), .bool OO]) rfl (by kernel_rfl) (by kernel_rfl) (by kernel_rfl) (fun _ _ _ h => h) (Or.inl ⟨by rfl, by intro w hSw; clear hSw; go_simp; (try with_reducible rfl)⟩) (by assumption) ?_
      try simp only [Act.put, List.setIfInBounds_toArray, List.set_cons_zero, List.set_cons_succ]
      refine wpAnyH_take (i := 7) (oi := { dst := some 23, op := _, type := _, pos := _, after := _, guard := _ }) (v := .int .i64 TT) rfl (by kernel_rfl) (by kernel_rfl) (by kernel_rfl) (fun _ _ _ h => h) (Or.inl ⟨by rfl, by intro w hSw; clear hSw; go_simp; (try with_reducible rfl)⟩) (by assumption) ?_
      try simp only [Act.put, List.setIfInBounds_toArray, List.set_cons_zero, List.set_cons_succ]
      refine wpAnyH_take (i := 8) (oi := { dst := some 24, op := _, type := _, pos := _, after := _, guard := _ }) (v := .agg (mk 2 CC)) rfl (by kernel_rfl) (by kernel_rfl) (by kernel_rfl) (fun _ _ _ h => h) (Or.inl ⟨by rfl, by intro w hSw; clear hSw; go_simp; (try with_reducible rfl)⟩) (by assumption) ?_
      try simp only [Act.put, List.setIfInBounds_toArray, List.set_cons_zero, List.set_cons_succ]
      refine wpAnyH_take (i := 9) (oi := { dst := some 25, op := _, type := _, pos := _, after := _, guard := _ }) (v := .bool OO) rfl (by kernel_rfl) (by kernel_rfl) (by kernel_rfl) (fun _ _ _ h => h) (Or.inl ⟨by rfl, by intro w hSw; clear hSw; go_simp; (try with_reducible rfl)⟩) (by assumption) ?_
      try simp only [Act.put, List.setIfInBounds_toArray, List.set_cons_zero, List.set_cons_succ]
      refine wpAnyH_take (i := 11) (oi := { dst := some 7, op := _, type := _, pos := _, after := _, guard := _ }) (v := .int .i64 TT) rfl (by kernel_rfl) (by kernel_rfl) (by kernel_rfl) (fun _ _ _ h => h) (Or.inl ⟨by rfl, by intro w hSw; clear hSw; go_simp; (try with_reducible rfl)⟩) (by assumption) ?_
      try simp only [Act.put, List.setIfInBounds_toArray, List.set_cons_zero, List.set_cons_succ]
      refine wpAnyH_ready (rs := [12]) (by kernel_rfl) (by simp) ?_
      refine AllReadyH.cons rfl (fun K hK => ?_) AllReadyH.nil
      rw [if_pos (by rfl)]
      refine wp_stC2 (off := 0) (g := CC) K8 (by omega) rfl rfl rfl ?_
      rw [HPT.out]
      have K4 := K4.rowOther b8 (mk 2 CC) (by have := H8.out; omega)
      have K5 := K5.rowOther b8 (mk 2 CC) (by have := H8.out; omega)
      have HB : Hid (Below w.heap.size w (y4.setRow b8 (mk 2 CC))) := below_setRow HB.out (by have := H8.out; omega) _
      have K8 := K8.row 2 CC
      generalize y4.setRow b8 (mk 2 CC) = z1 at *
      clear hHeld
      refine hK.out _ _ K5 (fun hHeld => ?_)
      clear hK K
      try simp only [Act.put, List.setIfInBounds_toArray, List.set_cons_zero, List.set_cons_succ]
      refine wpAnyH_take (i := 13) (oi := { dst := some 9, op := _, type := _, pos := _, after := _, guard := _ }) (v := .bool OO) rfl (by kernel_rfl) (by kernel_rfl) (by kernel_rfl) (fun _ _ _ h => h) (Or.inl ⟨by rfl, by intro w hSw; clear hSw; go_simp; (try with_reducible rfl)⟩) (by assumption) ?_
      try simp only [Act.put, List.setIfInBounds_toArray, List.set_cons_zero, List.set_cons_succ]
      refine wpAnyH_done (by kernel_rfl) ?_ _
      clear hHeld
      go_wp2_with (first | ((with_reducible show wpList _ _ _ (Oper.mk _ (Op.load 22 _) _ _ _ _ :: _) _ _); refine loadC (K8) rfl rfl rfl ?_) | ((with_reducible show wpList _ _ _ (Oper.mk _ (Op.store 22 _ _) _ _ _ _ :: _) _ _); refine storeC (K4) rfl rfl rfl rfl ?_))
      try simp only [Act.put, List.setIfInBounds_toArray, List.set_cons_zero, List.set_cons_succ]
      try simp only [Exit.inBlock, Exit.then]
      refine retcC (p := 4) (t := 22) (b := w.heap.size + 1) (f := CC) ?_ ?_ ?_ ?_ ?_
      · exact K4.row 2 CC
      · rfl
      · rfl
      · rfl
      · exact ⟨rfl, below_setRow HB.out (by omega) (mk 2 CC)⟩
    refine AllReadyH.cons rfl (fun K hK => ?_) AllReadyH.nil
    rw [if_pos (by rfl)]
    refine wp_allocC2 rfl ?_
    have K8 := Blk.new y1 2 (fun _ => 0) 22
    have H8 : Hid (w.heap.size + 1 < y1.heap.size ∧ b5 < y1.heap.size) := ⟨K4.lt, K5.lt⟩
    have K4 := K4.alloc (.cells (mk 2 fun _ => 0) 22)
    have K5 := K5.alloc (.cells (mk 2 fun _ => 0) 22)
    have HB : Hid (Below w.heap.size w (y1.alloc (.cells (mk 2 fun _ => 0) 22))) := HB.out.alloc HB.out.size _
    clear hHeld
    generalize y1.alloc (.cells (mk 2 fun _ => 0) 22) = y2 at *
    generalize y1.heap.size = b8 at *
    refine hK.out _ _ K5 (fun hHeld => ?_)
    clear hK K
    try simp only [Act.put, List.setIfInBounds_toArray, List.set_cons_zero, List.set_cons_succ]
    refine wpAnyH_ready (rs := [4]) (by kernel_rfl) (by simp) ?_
    refine AllReadyH.cons rfl (fun K hK => ?_) AllReadyH.nil
    go_simp
    refine (form6_any M _).mono ?_
    rintro e y3 ⟨rfl, hb⟩
    have K4 := K4.below hb K4.lt
    have K5 := K5.below hb K5.lt
    have K8 := K8.below hb K8.lt
    have HB : Hid (Below w.heap.size w y3) := HB.out.trans (hb.mono HB.out.size)
    clear hb hHeld
    go_wp2_with fail
    refine hK.out _ _ K5 (fun hHeld => ?_)
    clear hK K
    try simp only [Act.put, List.setIfInBounds_toArray, List.set_cons_zero, List.set_cons_succ]
    refine wpAnyH_ready (rs := [5]) (by kernel_rfl) (by simp) ?_
    refine AllReadyH.cons rfl (fun K hK => ?_) AllReadyH.nil
    go_simp
    refine (HH.out _).mono ?_
    rintro e y4 ⟨rfl, hb⟩
    have K4 := K4.below hb K4.lt
    have K5 := K5.below hb K5.lt
    have K8 := K8.below hb K8.lt
    have HB : Hid (Below w.heap.size w y4) := HB.out.trans (hb.mono HB.out.size)
    clear hb hHeld
    go_wp2_with fail
    refine hK.out _ _ K5 (fun hHeld => ?_)
    clear hK K
    try simp only [Act.put, List.setIfInBounds_toArray, List.set_cons_zero, List.set_cons_succ]
    refine wpAnyH_take (i := 6) (oi := { dst := some 16, op := _, type := _, pos := _, after := _, guard := _ }) (v := .tuple #[.int .i64 TT, .agg (mk 2 CC), .bool OO]) rfl (by kernel_rfl) (by kernel_rfl) (by kernel_rfl) (fun _ _ _ h => h) (Or.inl ⟨by rfl, by intro w hSw; clear hSw; go_simp; (try with_reducible rfl)⟩) (by assumption) ?_
    try simp only [Act.put, List.setIfInBounds_toArray, List.set_cons_zero, List.set_cons_succ]
    refine wpAnyH_take (i := 7) (oi := { dst := some 23, op := _, type := _, pos := _, after := _, guard := _ }) (v := .int .i64 TT) rfl (by kernel_rfl) (by kernel_rfl) (by kernel_rfl) (fun _ _ _ h => h) (Or.inl ⟨by rfl, by intro w hSw; clear hSw; go_simp; (try with_reducible rfl)⟩) (by assumption) ?_
    try simp only [Act.put, List.setIfInBounds_toArray, List.set_cons_zero, List.set_cons_succ]
    refine wpAnyH_take (i := 8) (oi := { dst := some 24, op := _, type := _, pos := _, after := _, guard := _ }) (v := .agg (mk 2 CC)) rfl (by kernel_rfl) (by kernel_rfl) (by kernel_rfl) (fun _ _ _ h => h) (Or.inl ⟨by rfl, by intro w hSw; clear hSw; go_simp; (try with_reducible rfl)⟩) (by assumption) ?_
    try simp only [Act.put, List.setIfInBounds_toArray, List.set_cons_zero, List.set_cons_succ]
    refine wpAnyH_take (i := 9) (oi := { dst := some 25, op := _, type := _, pos := _, after := _, guard := _ }) (v := .bool OO) rfl (by kernel_rfl) (by kernel_rfl) (by kernel_rfl) (fun _ _ _ h => h) (Or.inl ⟨by rfl, by intro w hSw; clear hSw; go_simp; (try with_reducible rfl)⟩) (by assumption) ?_
    try simp only [Act.put, List.setIfInBounds_toArray, List.set_cons_zero, List.set_cons_succ]
    refine wpAnyH_take (i := 11) (oi := { dst := some 7, op := _, type := _, pos := _, after := _, guard := _ }) (v := .int .i64 TT) rfl (by kernel_rfl) (by kernel_rfl) (by kernel_rfl) (fun _ _ _ h => h) (Or.inl ⟨by rfl, by intro w hSw; clear hSw; go_simp; (try with_reducible rfl)⟩) (by assumption) ?_
    try simp only [Act.put, List.setIfInBounds_toArray, List.set_cons_zero, List.set_cons_succ]
    refine wpAnyH_ready (rs := [12]) (by kernel_rfl) (by simp) ?_
    refine AllReadyH.cons rfl (fun K hK => ?_) AllReadyH.nil
    rw [if_pos (by rfl)]
    refine wp_stC2 (off := 0) (g := CC) K8 (by omega) rfl rfl rfl ?_
    rw [HPT.out]
    have K4 := K4.rowOther b8 (mk 2 CC) (by have := H8.out; omega)
    have K5 := K5.rowOther b8 (mk 2 CC) (by have := H8.out; omega)
    have HB : Hid (Below w.heap.size w (y4.setRow b8 (mk 2 CC))) := below_setRow HB.out (by have := H8.out; omega) _
    have K8 := K8.row 2 CC
    generalize y4.setRow b8 (mk 2 CC) = z1 at *
    clear hHeld
    refine hK.out _ _ K5 (fun hHeld => ?_)
    clear hK K
    try simp only [Act.put, List.setIfInBounds_toArray, List.set_cons_zero, List.set_cons_succ]
    refine wpAnyH_take (i := 13) (oi := { dst := some 9, op := _, type := _, pos := _, after := _, guard := _ }) (v := .bool OO) rfl (by kernel_rfl) (by kernel_rfl) (by kernel_rfl) (fun _ _ _ h => h) (Or.inl ⟨by rfl, by intro w hSw; clear hSw; go_simp; (try with_reducible rfl)⟩) (by assumption) ?_
    try simp only [Act.put, List.setIfInBounds_toArray, List.set_cons_zero, List.set_cons_succ]
    refine wpAnyH_done (by kernel_rfl) ?_ _
    clear hHeld
    go_wp2_with (first | ((with_reducible show wpList _ _ _ (Oper.mk _ (Op.load 22 _) _ _ _ _ :: _) _ _); refine loadC (K8) rfl rfl rfl ?_) | ((with_reducible show wpList _ _ _ (Oper.mk _ (Op.store 22 _ _) _ _ _ _ :: _) _ _); refine storeC (K4) rfl rfl rfl rfl ?_))
    try simp only [Act.put, List.setIfInBounds_toArray, List.set_cons_zero, List.set_cons_succ]
    try simp only [Exit.inBlock, Exit.then]
    refine retcC (p := 4) (t := 22) (b := w.heap.size + 1) (f := CC) ?_ ?_ ?_ ?_ ?_
    · exact K4.row 2 CC
    · rfl
    · rfl
    · rfl
    · exact ⟨rfl, below_setRow HB.out (by omega) (mk 2 CC)⟩
  refine AllReadyH.cons rfl (fun K hK => ?_) AllReadyH.nil
  rw [if_pos (by rfl)]
  refine wp_allocC2 rfl ?_
  have K8 := Blk.new y0 2 (fun _ => 0) 22
  have H8 : Hid (w.heap.size + 1 < y0.heap.size ∧ b5 < y0.heap.size) := ⟨K4.lt, K5.lt⟩
  have K4 := K4.alloc (.cells (mk 2 fun _ => 0) 22)
  have K5 := K5.alloc (.cells (mk 2 fun _ => 0) 22)
  have HB : Hid (Below w.heap.size w (y0.alloc (.cells (mk 2 fun _ => 0) 22))) := HB.out.alloc HB.out.size _
  clear hHeld
  generalize y0.alloc (.cells (mk 2 fun _ => 0) 22) = y1 at *
  generalize y0.heap.size = b8 at *
  refine hK.out _ _ K5 (fun hHeld => ?_)
  clear hK K
  try simp only [Act.put, List.setIfInBounds_toArray, List.set_cons_zero, List.set_cons_succ]
  refine wpAnyH_ready (rs := [0]) (by kernel_rfl) (by simp) ?_
  refine AllReadyH.cons rfl (fun K hK => ?_) AllReadyH.nil
  go_simp
  refine (forms_any _).mono ?_
  rintro e y2 ⟨rfl, hb⟩
  have K4 := K4.below hb K4.lt
  have K5 := K5.below hb K5.lt
  have K8 := K8.below hb K8.lt
  have HB : Hid (Below w.heap.size w y2) := HB.out.trans (hb.mono HB.out.size)
  clear hb hHeld
  go_wp2_with fail
  refine hK.out _ _ K5 (fun hHeld => ?_)
  clear hK K
  try simp only [Act.put, List.setIfInBounds_toArray, List.set_cons_zero, List.set_cons_succ]
  refine wpAnyH_take (i := 2) (oi := { dst := some 19, op := _, type := _, pos := _, after := _, guard := _ }) (v := .func (.func 73) #[] #[]) rfl (by kernel_rfl) (by kernel_rfl) (by kernel_rfl) (fun _ _ _ h => h) (Or.inl ⟨by rfl, by intro W hSw; clear hSw; have iF := idxF6 W; go_simp⟩) (by assumption) ?_
  try simp only [Act.put, List.setIfInBounds_toArray, List.set_cons_zero, List.set_cons_succ]
  refine wpAnyH_ready (rs := [4]) (by kernel_rfl) (by simp) ?_
  refine AllReadyH.cons rfl (fun K hK => ?_) AllReadyH.nil
  go_simp
  refine (form6_any M _).mono ?_
  rintro e y3 ⟨rfl, hb⟩
  have K4 := K4.below hb K4.lt
  have K5 := K5.below hb K5.lt
  have K8 := K8.below hb K8.lt
  have HB : Hid (Below w.heap.size w y3) := HB.out.trans (hb.mono HB.out.size)
  clear hb hHeld
  go_wp2_with fail
  refine hK.out _ _ K5 (fun hHeld => ?_)
  clear hK K
  try simp only [Act.put, List.setIfInBounds_toArray, List.set_cons_zero, List.set_cons_succ]
  refine wpAnyH_ready (rs := [5]) (by kernel_rfl) (by simp) ?_
  refine AllReadyH.cons rfl (fun K hK => ?_) AllReadyH.nil
  go_simp
  refine (HH.out _).mono ?_
  rintro e y4 ⟨rfl, hb⟩
  have K4 := K4.below hb K4.lt
  have K5 := K5.below hb K5.lt
  have K8 := K8.below hb K8.lt
  have HB : Hid (Below w.heap.size w y4) := HB.out.trans (hb.mono HB.out.size)
  clear hb hHeld
  go_wp2_with fail
  refine hK.out _ _ K5 (fun hHeld => ?_)
  clear hK K
  try simp only [Act.put, List.setIfInBounds_toArray, List.set_cons_zero, List.set_cons_succ]
  refine wpAnyH_take (i := 6) (oi := { dst := some 16, op := _, type := _, pos := _, after := _, guard := _ }) (v := .tuple #[.int .i64 TT, .agg (mk 2 CC), .bool OO]) rfl (by kernel_rfl) (by kernel_rfl) (by kernel_rfl) (fun _ _ _ h => h) (Or.inl ⟨by rfl, by intro w hSw; clear hSw; go_simp; (try with_reducible rfl)⟩) (by assumption) ?_
  try simp only [Act.put, List.setIfInBounds_toArray, List.set_cons_zero, List.set_cons_succ]
  refine wpAnyH_take (i := 7) (oi := { dst := some 23, op := _, type := _, pos := _, after := _, guard := _ }) (v := .int .i64 TT) rfl (by kernel_rfl) (by kernel_rfl) (by kernel_rfl) (fun _ _ _ h => h) (Or.inl ⟨by rfl, by intro w hSw; clear hSw; go_simp; (try with_reducible rfl)⟩) (by assumption) ?_
  try simp only [Act.put, List.setIfInBounds_toArray, List.set_cons_zero, List.set_cons_succ]
  refine wpAnyH_take (i := 8) (oi := { dst := some 24, op := _, type := _, pos := _, after := _, guard := _ }) (v := .agg (mk 2 CC)) rfl (by kernel_rfl) (by kernel_rfl) (by kernel_rfl) (fun _ _ _ h => h) (Or.inl ⟨by rfl, by intro w hSw; clear hSw; go_simp; (try with_reducible rfl)⟩) (by assumption) ?_
  try simp only [Act.put, List.setIfInBounds_toArray, List.set_cons_zero, List.set_cons_succ]
  refine wpAnyH_take (i := 9) (oi := { dst := some 25, op := _, type := _, pos := _, after := _, guard := _ }) (v := .bool OO) rfl (by kernel_rfl) (by kernel_rfl) (by kernel_rfl) (fun _ _ _ h => h) (Or.inl ⟨by rfl, by intro w hSw; clear hSw; go_simp; (try with_reducible rfl)⟩) (by assumption) ?_
  try simp only [Act.put, List.setIfInBounds_toArray, List.set_cons_zero, List.set_cons_succ]
  refine wpAnyH_take (i := 11) (oi := { dst := some 7, op := _, type := _, pos := _, after := _, guard := _ }) (v := .int .i64 TT) rfl (by kernel_rfl) (by kernel_rfl) (by kernel_rfl) (fun _ _ _ h => h) (Or.inl ⟨by rfl, by intro w hSw; clear hSw; go_simp; (try with_reducible rfl)⟩) (by assumption) ?_
  try simp only [Act.put, List.setIfInBounds_toArray, List.set_cons_zero, List.set_cons_succ]
  refine wpAnyH_ready (rs := [12]) (by kernel_rfl) (by simp) ?_
  refine AllReadyH.cons rfl (fun K hK => ?_) AllReadyH.nil
  rw [if_pos (by rfl)]
  refine wp_stC2 (off := 0) (g := CC) K8 (by omega) rfl rfl rfl ?_
  rw [HPT.out]
  have K4 := K4.rowOther b8 (mk 2 CC) (by have := H8.out; omega)
  have K5 := K5.rowOther b8 (mk 2 CC) (by have := H8.out; omega)
  have HB : Hid (Below w.heap.size w (y4.setRow b8 (mk 2 CC))) := below_setRow HB.out (by have := H8.out; omega) _
  have K8 := K8.row 2 CC
  generalize y4.setRow b8 (mk 2 CC) = z1 at *
  clear hHeld
  refine hK.out _ _ K5 (fun hHeld => ?_)
  clear hK K
  try simp only [Act.put, List.setIfInBounds_toArray, List.set_cons_zero, List.set_cons_succ]
  refine wpAnyH_take (i := 13) (oi := { dst := some 9, op := _, type := _, pos := _, after := _, guard := _ }) (v := .bool OO) rfl (by kernel_rfl) (by kernel_rfl) (by kernel_rfl) (fun _ _ _ h => h) (Or.inl ⟨by rfl, by intro w hSw; clear hSw; go_simp; (try with_reducible rfl)⟩) (by assumption) ?_
  try simp only [Act.put, List.setIfInBounds_toArray, List.set_cons_zero, List.set_cons_succ]
  refine wpAnyH_done (by kernel_rfl) ?_ _
  clear hHeld
  go_wp2_with (first | ((with_reducible show wpList _ _ _ (Oper.mk _ (Op.load 22 _) _ _ _ _ :: _) _ _); refine loadC (K8) rfl rfl rfl ?_) | ((with_reducible show wpList _ _ _ (Oper.mk _ (Op.store 22 _ _) _ _ _ _ :: _) _ _); refine storeC (K4) rfl rfl rfl rfl ?_))
  try simp only [Act.put, List.setIfInBounds_toArray, List.set_cons_zero, List.set_cons_succ]
  try simp only [Exit.inBlock, Exit.then]
  refine retcC (p := 4) (t := 22) (b := w.heap.size + 1) (f := CC) ?_ ?_ ?_ ?_ ?_
  · exact K4.row 2 CC
  · rfl
  · rfl
  · rfl
  · exact ⟨rfl, below_setRow HB.out (by omega) (mk 2 CC)⟩
set_option maxHeartbeats 4000000 in
set_option maxRecDepth 20000 in
theorem formCell7_any (R C : Nat) (hR : R < 4) (hC : C < 4) (w : World) :
    Calls Try.prog 48 #[.agg (mk 2 (two (R : Int) (C : Int))), .int .i64 7] w fun e w' => e = .returned (.agg (mk 2 (cellF (fcP (R * 4 + C) 7)))) ∧ Below w.heap.size w w' := by
  have z16 := zero16
  have z2 := zero2
  have HP := Lib.hid (fun w => putOne R C hR hC w)
  have HH := Lib.hid (fun w => highOne (R * 4 + C) 7 w)
  clear hR hC
  have K2 := (Blk.new w 2 (two (R : Int) (C : Int)) 22).alloc (.cells (mk 2 fun _ => 0) 22)
  have K4 := Blk.new (w.alloc (.cells (mk 2 (two (R : Int) (C : Int))) 22)) 2 (fun _ => 0) 22
  simp only [World.size_alloc] at K4
  have HB := Lib.hid (((Below.refl w.heap.size w).alloc (Nat.le_refl _) (.cells (mk 2 (two (R : Int) (C : Int))) 22)).alloc (by simp) (.cells (mk 2 fun _ => 0) 22))
  generalize hM : upd (fun _ => 0) (R * 4 + C) 1 = M at *
  generalize hiT (formF M 7) = TT at *
  generalize hiO (formF M 7) = OO at *
  generalize cellF (fcP (R * 4 + C) 7) = CC at *
  have HPT : Hid (mk 2 (patch (fun _ => 0) 0 2 CC) = mk 2 CC) := mk_congr fun j hj => by unfold patch; rw [if_pos (by omega), Nat.sub_zero]
  clear hM
  go_enter Try.func48, Try.ntmps48
  go_wp2_with ((with_reducible show wpList _ _ _ (Oper.mk _ (Op.load 22 _) _ _ _ _ :: _) _ _); refine loadC (K2) rfl rfl rfl ?_)
  refine (HP.out _).mono ?_
  rintro e w2 ⟨rfl, hb⟩
  have hlt := K4.lt
  have K4 := K4.below hb K4.lt
  have H5 : Hid (w.heap.size + 1 < w2.heap.size) := K4.lt
  have HB := HB.out.trans (hb.mono HB.out.size)
  have HB : Hid (Below w.heap.size w (w2.alloc (.cells (mk 16 M) 35))) := HB.alloc HB.size _
  have K4 := K4.alloc (.cells (mk 16 M) 35)
  have K5 := Blk.new w2 16 M 35
  clear hb HP K2 hlt
  go_wp2_with fail
  generalize w2.alloc (.cells (mk 16 M) 35) = w3 at *
  generalize w2.heap.size = b5 at *
  refine wp_region_held_drew (S := fun W => Blk W b5 16 M 35) (by kernel_rfl) (K5.drew) (fun hHeld => ?_)
  have K4 := K4.drew
  have K5 : Blk w3.drew b5 16 M 35 := K5.drew
  have HB : Hid (Below w.heap.size w w3.drew) := HB.out.drew
  generalize w3.drew = y0 at *
  refine wpAnyH_take (i := 1) (oi := { dst := some 18, op := _, type := _, pos := _, after := _, guard := _ }) (v := .int .i64 7) rfl (by kernel_rfl) (by kernel_rfl) (by kernel_rfl) (fun _ _ _ h => h) (Or.inl ⟨by rfl, by intro w hSw; clear hSw; go_simp; (try with_reducible rfl)⟩) (by assumption) ?_
  try simp only [Act.put, List.setIfInBounds_toArray, List.set_cons_zero, List.set_cons_succ]
  refine wpAnyH_take (i := 3) (oi := { dst := some 20, op := _, type := _, pos := _, after := _, guard := _ }) (v := .agg (mk 16 M)) rfl (by kernel_rfl) (by kernel_rfl) (by kernel_rfl) (fun _ _ _ h => h) (Or.inl ⟨by rfl, fun _ q => execB q rfl rfl⟩) (by assumption) ?_
  try simp only [Act.put, List.setIfInBounds_toArray, List.set_cons_zero, List.set_cons_succ]
  refine wpAnyH_ready (rs := [0, 10]) (by kernel_rfl) (by simp) ?_
  refine AllReadyH.cons rfl (fun K hK => ?_) ?_
  · go_simp
    refine (forms_any _).mono ?_
    rintro e y1 ⟨rfl, hb⟩
    have K4 := K4.below hb K4.lt
    have K5 := K5.below hb K5.lt
    have HB : Hid (Below w.heap.size w y1) := HB.out.trans (hb.mono HB.out.size)
    clear hb hHeld
    go_wp2_with fail
    refine hK.out _ _ K5 (fun hHeld => ?_)
    clear hK K
    try simp only [Act.put, List.setIfInBounds_toArray, List.set_cons_zero, List.set_cons_succ]
    refine wpAnyH_take (i := 2) (oi := { dst := some 19, op := _, type := _, pos := _, after := _, guard := _ }) (v := .func (.func 74) #[] #[]) rfl (by kernel_rfl) (by kernel_rfl) (by kernel_rfl) (fun _ _ _ h => h) (Or.inl ⟨by rfl, by intro W hSw; clear hSw; have iF := idxF7 W; go_simp⟩) (by assumption) ?_
    try simp only [Act.put, List.setIfInBounds_toArray, List.set_cons_zero, List.set_cons_succ]
    refine wpAnyH_ready (rs := [4, 10]) (by kernel_rfl) (by simp) ?_
    refine AllReadyH.cons rfl (fun K hK => ?_) ?_
    · go_simp
      refine (form7_any M _).mono ?_
      rintro e y2 ⟨rfl, hb⟩
      have K4 := K4.below hb K4.lt
      have K5 := K5.below hb K5.lt
      have HB : Hid (Below w.heap.size w y2) := HB.out.trans (hb.mono HB.out.size)
      clear hb hHeld
      go_wp2_with fail
      refine hK.out _ _ K5 (fun hHeld => ?_)
      clear hK K
      try simp only [Act.put, List.setIfInBounds_toArray, List.set_cons_zero, List.set_cons_succ]
      refine wpAnyH_ready (rs := [5, 10]) (by kernel_rfl) (by simp) ?_
      refine AllReadyH.cons rfl (fun K hK => ?_) ?_
      · go_simp
        refine (HH.out _).mono ?_
        rintro e y3 ⟨rfl, hb⟩
        have K4 := K4.below hb K4.lt
        have K5 := K5.below hb K5.lt
        have HB : Hid (Below w.heap.size w y3) := HB.out.trans (hb.mono HB.out.size)
        clear hb hHeld
        go_wp2_with fail
        refine hK.out _ _ K5 (fun hHeld => ?_)
        clear hK K
        try simp only [Act.put, List.setIfInBounds_toArray, List.set_cons_zero, List.set_cons_succ]
        refine wpAnyH_take (i := 6) (oi := { dst := some 16, op := _, type := _, pos := _, after := _, guard := _ }) (v := .tuple #[.int .i64 TT, .agg (mk 2 CC), .bool OO]) rfl (by kernel_rfl) (by kernel_rfl) (by kernel_rfl) (fun _ _ _ h => h) (Or.inl ⟨by rfl, by intro w hSw; clear hSw; go_simp; (try with_reducible rfl)⟩) (by assumption) ?_
        try simp only [Act.put, List.setIfInBounds_toArray, List.set_cons_zero, List.set_cons_succ]
        refine wpAnyH_take (i := 7) (oi := { dst := some 23, op := _, type := _, pos := _, after := _, guard := _ }) (v := .int .i64 TT) rfl (by kernel_rfl) (by kernel_rfl) (by kernel_rfl) (fun _ _ _ h => h) (Or.inl ⟨by rfl, by intro w hSw; clear hSw; go_simp; (try with_reducible rfl)⟩) (by assumption) ?_
        try simp only [Act.put, List.setIfInBounds_toArray, List.set_cons_zero, List.set_cons_succ]
        refine wpAnyH_take (i := 8) (oi := { dst := some 24, op := _, type := _, pos := _, after := _, guard := _ }) (v := .agg (mk 2 CC)) rfl (by kernel_rfl) (by kernel_rfl) (by kernel_rfl) (fun _ _ _ h => h) (Or.inl ⟨by rfl, by intro w hSw; clear hSw; go_simp; (try with_reducible rfl)⟩) (by assumption) ?_
        try simp only [Act.put, List.setIfInBounds_toArray, List.set_cons_zero, List.set_cons_succ]
        refine wpAnyH_take (i := 9) (oi := { dst := some 25, op := _, type := _, pos := _, after := _, guard := _ }) (v := .bool OO) rfl (by kernel_rfl) (by kernel_rfl) (by kernel_rfl) (fun _ _ _ h => h) (Or.inl ⟨by rfl, by intro w hSw; clear hSw; go_simp; (try with_reducible rfl)⟩) (by assumption) ?_
        try simp only [Act.put, List.setIfInBounds_toArray, List.set_cons_zero, List.set_cons_succ]
        refine wpAnyH_ready (rs := [10]) (by kernel_rfl) (by simp) ?_
        refine AllReadyH.cons rfl (fun K hK => ?_) AllReadyH.nil
        rw [if_pos (by rfl)]
        refine wp_allocC2 rfl ?_
        have K8 := Blk.new y3 2 (fun _ => 0) 22
        have H8 : Hid (w.heap.size + 1 < y3.heap.size ∧ b5 < y3.heap.size) := ⟨K4.lt, K5.lt⟩
        have K4 := K4.alloc (.cells (mk 2 fun _ => 0) 22)
        have K5 := K5.alloc (.cells (mk 2 fun _ => 0) 22)
        have HB : Hid (Below w.heap.size w (y3.alloc (.cells (mk 2 fun _ => 0) 22))) := HB.out.alloc HB.out.size _
        clear hHeld
        generalize y3.alloc (.cells (mk 2 fun _ => 0) 22) = y4 at *
        generalize y3.heap.size = b8 at *
        refine hK.out _ _ K5 (fun hHeld => ?_)
        clear hK K
        try simp only [Act.put, List.setIfInBounds_toArray, List.set_cons_zero, List.set_cons_succ]
        refine wpAnyH_take (i := 11) (oi := { dst := some 7, op := _, type := _, pos := _, after := _, guard := _ }) (v := .int .i64 TT) rfl (by kernel_rfl) (by kernel_rfl) (by kernel_rfl) (fun _ _ _ h => h) (Or.inl ⟨by rfl, by intro w hSw; clear hSw; go_simp; (try with_reducible rfl)⟩) (by assumption) ?_
        try simp only [Act.put, List.setIfInBounds_toArray, List.set_cons_zero, List.set_cons_succ]
        refine wpAnyH_ready (rs := [12]) (by kernel_rfl) (by simp) ?_
        refine AllReadyH.cons rfl (fun K hK => ?_) AllReadyH.nil
        rw [if_pos (by rfl)]
        refine wp_stC2 (off := 0) (g := CC) K8 (by omega) rfl rfl rfl ?_
        rw [HPT.out]
        have K4 := K4.rowOther b8 (mk 2 CC) (by have := H8.out; omega)
        have K5 := K5.rowOther b8 (mk 2 CC) (by have := H8.out; omega)
        have HB : Hid (Below w.heap.size w (y4.setRow b8 (mk 2 CC))) := below_setRow HB.out (by have := H8.out; omega) _
        have K8 := K8.row 2 CC
        generalize y4.setRow b8 (mk 2 CC) = z1 at *
        clear hHeld
        refine hK.out _ _ K5 (fun hHeld => ?_)
        clear hK K
        try simp only [Act.put, List.setIfInBounds_toArray, List.set_cons_zero, List.set_cons_succ]
        refine wpAnyH_take (i := 13) (oi := { dst := some 9, op := _, type := _, pos := _, after := _, guard := _ }) (v := .bool OO) rfl (by kernel_rfl) (by kernel_rfl) (by kernel_rfl) (fun _ _ _ h => h) (Or.inl ⟨by rfl, by intro w hSw; clear hSw; go_simp; (try with_reducible rfl)⟩) (by assumption) ?_
        try simp only [Act.put, List.setIfInBounds_toArray, List.set_cons_zero, List.set_cons_succ]
        refine wpAnyH_done (by kernel_rfl) ?_ _
        clear hHeld
        go_wp2_with (first | ((with_reducible show wpList _ _ _ (Oper.mk _ (Op.load 22 _) _ _ _ _ :: _) _ _); refine loadC (K8) rfl rfl rfl ?_) | ((with_reducible show wpList _ _ _ (Oper.mk _ (Op.store 22 _ _) _ _ _ _ :: _) _ _); refine storeC (K4) rfl rfl rfl rfl ?_))
        try simp only [Act.put, List.setIfInBounds_toArray, List.set_cons_zero, List.set_cons_succ]
        try simp only [Exit.inBlock, Exit.then]
        refine retcC (p := 4) (t := 22) (b := w.heap.size + 1) (f := CC) ?_ ?_ ?_ ?_ ?_
        · exact K4.row 2 CC
        · rfl
        · rfl
        · rfl
        · exact ⟨rfl, below_setRow HB.out (by omega) (mk 2 CC)⟩
      refine AllReadyH.cons rfl (fun K hK => ?_) AllReadyH.nil
      rw [if_pos (by rfl)]
      refine wp_allocC2 rfl ?_
      have K8 := Blk.new y2 2 (fun _ => 0) 22
      have H8 : Hid (w.heap.size + 1 < y2.heap.size ∧ b5 < y2.heap.size) := ⟨K4.lt, K5.lt⟩
      have K4 := K4.alloc (.cells (mk 2 fun _ => 0) 22)
      have K5 := K5.alloc (.cells (mk 2 fun _ => 0) 22)
      have HB : Hid (Below w.heap.size w (y2.alloc (.cells (mk 2 fun _ => 0) 22))) := HB.out.alloc HB.out.size _
      clear hHeld
      generalize y2.alloc (.cells (mk 2 fun _ => 0) 22) = y3 at *
      generalize y2.heap.size = b8 at *
      refine hK.out _ _ K5 (fun hHeld => ?_)
      clear hK K
      try simp only [Act.put, List.setIfInBounds_toArray, List.set_cons_zero, List.set_cons_succ]
      refine wpAnyH_ready (rs := [5]) (by kernel_rfl) (by simp) ?_
      refine AllReadyH.cons rfl (fun K hK => ?_) AllReadyH.nil
      go_simp
      refine (HH.out _).mono ?_
      rintro e y4 ⟨rfl, hb⟩
      have K4 := K4.below hb K4.lt
      have K5 := K5.below hb K5.lt
      have K8 := K8.below hb K8.lt
      have HB : Hid (Below w.heap.size w y4) := HB.out.trans (hb.mono HB.out.size)
      clear hb hHeld
      go_wp2_with fail
      refine hK.out _ _ K5 (fun hHeld => ?_)
      clear hK K
      try simp only [Act.put, List.setIfInBounds_toArray, List.set_cons_zero, List.set_cons_succ]
      refine wpAnyH_take (i := 6) (oi := { dst := some 16, op := _, type := _, pos := _, after := _, guard := _ }) (v := .tuple #[.int .i64 TT, .agg (mk 2 CC), .bool OO]) rfl (by kernel_rfl) (by kernel_rfl) (by kernel_rfl) (fun _ _ _ h => h) (Or.inl ⟨by rfl, by intro w hSw; clear hSw; go_simp; (try with_reducible rfl)⟩) (by assumption) ?_
      try simp only [Act.put, List.setIfInBounds_toArray, List.set_cons_zero, List.set_cons_succ]
      refine wpAnyH_take (i := 7) (oi := { dst := some 23, op := _, type := _, pos := _, after := _, guard := _ }) (v := .int .i64 TT) rfl (by kernel_rfl) (by kernel_rfl) (by kernel_rfl) (fun _ _ _ h => h) (Or.inl ⟨by rfl, by intro w hSw; clear hSw; go_simp; (try with_reducible rfl)⟩) (by assumption) ?_
      try simp only [Act.put, List.setIfInBounds_toArray, List.set_cons_zero, List.set_cons_succ]
      refine wpAnyH_take (i := 8) (oi := { dst := some 24, op := _, type := _, pos := _, after := _, guard := _ }) (v := .agg (mk 2 CC)) rfl (by kernel_rfl) (by kernel_rfl) (by kernel_rfl) (fun _ _ _ h => h) (Or.inl ⟨by rfl, by intro w hSw; clear hSw; go_simp; (try with_reducible rfl)⟩) (by assumption) ?_
      try simp only [Act.put, List.setIfInBounds_toArray, List.set_cons_zero, List.set_cons_succ]
      refine wpAnyH_take (i := 9) (oi := { dst := some 25, op := _, type := _, pos := _, after := _, guard := _ }) (v := .bool OO) rfl (by kernel_rfl) (by kernel_rfl) (by kernel_rfl) (fun _ _ _ h => h) (Or.inl ⟨by rfl, by intro w hSw; clear hSw; go_simp; (try with_reducible rfl)⟩) (by assumption) ?_
      try simp only [Act.put, List.setIfInBounds_toArray, List.set_cons_zero, List.set_cons_succ]
      refine wpAnyH_take (i := 11) (oi := { dst := some 7, op := _, type := _, pos := _, after := _, guard := _ }) (v := .int .i64 TT) rfl (by kernel_rfl) (by kernel_rfl) (by kernel_rfl) (fun _ _ _ h => h) (Or.inl ⟨by rfl, by intro w hSw; clear hSw; go_simp; (try with_reducible rfl)⟩) (by assumption) ?_
      try simp only [Act.put, List.setIfInBounds_toArray, List.set_cons_zero, List.set_cons_succ]
      refine wpAnyH_ready (rs := [12]) (by kernel_rfl) (by simp) ?_
      refine AllReadyH.cons rfl (fun K hK => ?_) AllReadyH.nil
      rw [if_pos (by rfl)]
      refine wp_stC2 (off := 0) (g := CC) K8 (by omega) rfl rfl rfl ?_
      rw [HPT.out]
      have K4 := K4.rowOther b8 (mk 2 CC) (by have := H8.out; omega)
      have K5 := K5.rowOther b8 (mk 2 CC) (by have := H8.out; omega)
      have HB : Hid (Below w.heap.size w (y4.setRow b8 (mk 2 CC))) := below_setRow HB.out (by have := H8.out; omega) _
      have K8 := K8.row 2 CC
      generalize y4.setRow b8 (mk 2 CC) = z1 at *
      clear hHeld
      refine hK.out _ _ K5 (fun hHeld => ?_)
      clear hK K
      try simp only [Act.put, List.setIfInBounds_toArray, List.set_cons_zero, List.set_cons_succ]
      refine wpAnyH_take (i := 13) (oi := { dst := some 9, op := _, type := _, pos := _, after := _, guard := _ }) (v := .bool OO) rfl (by kernel_rfl) (by kernel_rfl) (by kernel_rfl) (fun _ _ _ h => h) (Or.inl ⟨by rfl, by intro w hSw; clear hSw; go_simp; (try with_reducible rfl)⟩) (by assumption) ?_
      try simp only [Act.put, List.setIfInBounds_toArray, List.set_cons_zero, List.set_cons_succ]
      refine wpAnyH_done (by kernel_rfl) ?_ _
      clear hHeld
      go_wp2_with (first | ((with_reducible show wpList _ _ _ (Oper.mk _ (Op.load 22 _) _ _ _ _ :: _) _ _); refine loadC (K8) rfl rfl rfl ?_) | ((with_reducible show wpList _ _ _ (Oper.mk _ (Op.store 22 _ _) _ _ _ _ :: _) _ _); refine storeC (K4) rfl rfl rfl rfl ?_))
      try simp only [Act.put, List.setIfInBounds_toArray, List.set_cons_zero, List.set_cons_succ]
      try simp only [Exit.inBlock, Exit.then]
      refine retcC (p := 4) (t := 22) (b := w.heap.size + 1) (f := CC) ?_ ?_ ?_ ?_ ?_
      · exact K4.row 2 CC
      · rfl
      · rfl
      · rfl
      · exact ⟨rfl, below_setRow HB.out (by omega) (mk 2 CC)⟩
    refine AllReadyH.cons rfl (fun K hK => ?_) AllReadyH.nil
    rw [if_pos (by rfl)]
    refine wp_allocC2 rfl ?_
    have K8 := Blk.new y1 2 (fun _ => 0) 22
    have H8 : Hid (w.heap.size + 1 < y1.heap.size ∧ b5 < y1.heap.size) := ⟨K4.lt, K5.lt⟩
    have K4 := K4.alloc (.cells (mk 2 fun _ => 0) 22)
    have K5 := K5.alloc (.cells (mk 2 fun _ => 0) 22)
    have HB : Hid (Below w.heap.size w (y1.alloc (.cells (mk 2 fun _ => 0) 22))) := HB.out.alloc HB.out.size _
    clear hHeld
    generalize y1.alloc (.cells (mk 2 fun _ => 0) 22) = y2 at *
    generalize y1.heap.size = b8 at *
    refine hK.out _ _ K5 (fun hHeld => ?_)
    clear hK K
    try simp only [Act.put, List.setIfInBounds_toArray, List.set_cons_zero, List.set_cons_succ]
    refine wpAnyH_ready (rs := [4]) (by kernel_rfl) (by simp) ?_
    refine AllReadyH.cons rfl (fun K hK => ?_) AllReadyH.nil
    go_simp
    refine (form7_any M _).mono ?_
    rintro e y3 ⟨rfl, hb⟩
    have K4 := K4.below hb K4.lt
    have K5 := K5.below hb K5.lt
    have K8 := K8.below hb K8.lt
    have HB : Hid (Below w.heap.size w y3) := HB.out.trans (hb.mono HB.out.size)
    clear hb hHeld
    go_wp2_with fail
    refine hK.out _ _ K5 (fun hHeld => ?_)
    clear hK K
    try simp only [Act.put, List.setIfInBounds_toArray, List.set_cons_zero, List.set_cons_succ]
    refine wpAnyH_ready (rs := [5]) (by kernel_rfl) (by simp) ?_
    refine AllReadyH.cons rfl (fun K hK => ?_) AllReadyH.nil
    go_simp
    refine (HH.out _).mono ?_
    rintro e y4 ⟨rfl, hb⟩
    have K4 := K4.below hb K4.lt
    have K5 := K5.below hb K5.lt
    have K8 := K8.below hb K8.lt
    have HB : Hid (Below w.heap.size w y4) := HB.out.trans (hb.mono HB.out.size)
    clear hb hHeld
    go_wp2_with fail
    refine hK.out _ _ K5 (fun hHeld => ?_)
    clear hK K
    try simp only [Act.put, List.setIfInBounds_toArray, List.set_cons_zero, List.set_cons_succ]
    refine wpAnyH_take (i := 6) (oi := { dst := some 16, op := _, type := _, pos := _, after := _, guard := _ }) (v := .tuple #[.int .i64 TT, .agg (mk 2 CC), .bool OO]) rfl (by kernel_rfl) (by kernel_rfl) (by kernel_rfl) (fun _ _ _ h => h) (Or.inl ⟨by rfl, by intro w hSw; clear hSw; go_simp; (try with_reducible rfl)⟩) (by assumption) ?_
    try simp only [Act.put, List.setIfInBounds_toArray, List.set_cons_zero, List.set_cons_succ]
    refine wpAnyH_take (i := 7) (oi := { dst := some 23, op := _, type := _, pos := _, after := _, guard := _ }) (v := .int .i64 TT) rfl (by kernel_rfl) (by kernel_rfl) (by kernel_rfl) (fun _ _ _ h => h) (Or.inl ⟨by rfl, by intro w hSw; clear hSw; go_simp; (try with_reducible rfl)⟩) (by assumption) ?_
    try simp only [Act.put, List.setIfInBounds_toArray, List.set_cons_zero, List.set_cons_succ]
    refine wpAnyH_take (i := 8) (oi := { dst := some 24, op := _, type := _, pos := _, after := _, guard := _ }) (v := .agg (mk 2 CC)) rfl (by kernel_rfl) (by kernel_rfl) (by kernel_rfl) (fun _ _ _ h => h) (Or.inl ⟨by rfl, by intro w hSw; clear hSw; go_simp; (try with_reducible rfl)⟩) (by assumption) ?_
    try simp only [Act.put, List.setIfInBounds_toArray, List.set_cons_zero, List.set_cons_succ]
    refine wpAnyH_take (i := 9) (oi := { dst := some 25, op := _, type := _, pos := _, after := _, guard := _ }) (v := .bool OO) rfl (by kernel_rfl) (by kernel_rfl) (by kernel_rfl) (fun _ _ _ h => h) (Or.inl ⟨by rfl, by intro w hSw; clear hSw; go_simp; (try with_reducible rfl)⟩) (by assumption) ?_
    try simp only [Act.put, List.setIfInBounds_toArray, List.set_cons_zero, List.set_cons_succ]
    refine wpAnyH_take (i := 11) (oi := { dst := some 7, op := _, type := _, pos := _, after := _, guard := _ }) (v := .int .i64 TT) rfl (by kernel_rfl) (by kernel_rfl) (by kernel_rfl) (fun _ _ _ h => h) (Or.inl ⟨by rfl, by intro w hSw; clear hSw; go_simp; (try with_reducible rfl)⟩) (by assumption) ?_
    try simp only [Act.put, List.setIfInBounds_toArray, List.set_cons_zero, List.set_cons_succ]
    refine wpAnyH_ready (rs := [12]) (by kernel_rfl) (by simp) ?_
    refine AllReadyH.cons rfl (fun K hK => ?_) AllReadyH.nil
    rw [if_pos (by rfl)]
    refine wp_stC2 (off := 0) (g := CC) K8 (by omega) rfl rfl rfl ?_
    rw [HPT.out]
    have K4 := K4.rowOther b8 (mk 2 CC) (by have := H8.out; omega)
    have K5 := K5.rowOther b8 (mk 2 CC) (by have := H8.out; omega)
    have HB : Hid (Below w.heap.size w (y4.setRow b8 (mk 2 CC))) := below_setRow HB.out (by have := H8.out; omega) _
    have K8 := K8.row 2 CC
    generalize y4.setRow b8 (mk 2 CC) = z1 at *
    clear hHeld
    refine hK.out _ _ K5 (fun hHeld => ?_)
    clear hK K
    try simp only [Act.put, List.setIfInBounds_toArray, List.set_cons_zero, List.set_cons_succ]
    refine wpAnyH_take (i := 13) (oi := { dst := some 9, op := _, type := _, pos := _, after := _, guard := _ }) (v := .bool OO) rfl (by kernel_rfl) (by kernel_rfl) (by kernel_rfl) (fun _ _ _ h => h) (Or.inl ⟨by rfl, by intro w hSw; clear hSw; go_simp; (try with_reducible rfl)⟩) (by assumption) ?_
    try simp only [Act.put, List.setIfInBounds_toArray, List.set_cons_zero, List.set_cons_succ]
    refine wpAnyH_done (by kernel_rfl) ?_ _
    clear hHeld
    go_wp2_with (first | ((with_reducible show wpList _ _ _ (Oper.mk _ (Op.load 22 _) _ _ _ _ :: _) _ _); refine loadC (K8) rfl rfl rfl ?_) | ((with_reducible show wpList _ _ _ (Oper.mk _ (Op.store 22 _ _) _ _ _ _ :: _) _ _); refine storeC (K4) rfl rfl rfl rfl ?_))
    try simp only [Act.put, List.setIfInBounds_toArray, List.set_cons_zero, List.set_cons_succ]
    try simp only [Exit.inBlock, Exit.then]
    refine retcC (p := 4) (t := 22) (b := w.heap.size + 1) (f := CC) ?_ ?_ ?_ ?_ ?_
    · exact K4.row 2 CC
    · rfl
    · rfl
    · rfl
    · exact ⟨rfl, below_setRow HB.out (by omega) (mk 2 CC)⟩
  refine AllReadyH.cons rfl (fun K hK => ?_) AllReadyH.nil
  rw [if_pos (by rfl)]
  refine wp_allocC2 rfl ?_
  have K8 := Blk.new y0 2 (fun _ => 0) 22
  have H8 : Hid (w.heap.size + 1 < y0.heap.size ∧ b5 < y0.heap.size) := ⟨K4.lt, K5.lt⟩
  have K4 := K4.alloc (.cells (mk 2 fun _ => 0) 22)
  have K5 := K5.alloc (.cells (mk 2 fun _ => 0) 22)
  have HB : Hid (Below w.heap.size w (y0.alloc (.cells (mk 2 fun _ => 0) 22))) := HB.out.alloc HB.out.size _
  clear hHeld
  generalize y0.alloc (.cells (mk 2 fun _ => 0) 22) = y1 at *
  generalize y0.heap.size = b8 at *
  refine hK.out _ _ K5 (fun hHeld => ?_)
  clear hK K
  try simp only [Act.put, List.setIfInBounds_toArray, List.set_cons_zero, List.set_cons_succ]
  refine wpAnyH_ready (rs := [0]) (by kernel_rfl) (by simp) ?_
  refine AllReadyH.cons rfl (fun K hK => ?_) AllReadyH.nil
  go_simp
  refine (forms_any _).mono ?_
  rintro e y2 ⟨rfl, hb⟩
  have K4 := K4.below hb K4.lt
  have K5 := K5.below hb K5.lt
  have K8 := K8.below hb K8.lt
  have HB : Hid (Below w.heap.size w y2) := HB.out.trans (hb.mono HB.out.size)
  clear hb hHeld
  go_wp2_with fail
  refine hK.out _ _ K5 (fun hHeld => ?_)
  clear hK K
  try simp only [Act.put, List.setIfInBounds_toArray, List.set_cons_zero, List.set_cons_succ]
  refine wpAnyH_take (i := 2) (oi := { dst := some 19, op := _, type := _, pos := _, after := _, guard := _ }) (v := .func (.func 74) #[] #[]) rfl (by kernel_rfl) (by kernel_rfl) (by kernel_rfl) (fun _ _ _ h => h) (Or.inl ⟨by rfl, by intro W hSw; clear hSw; have iF := idxF7 W; go_simp⟩) (by assumption) ?_
  try simp only [Act.put, List.setIfInBounds_toArray, List.set_cons_zero, List.set_cons_succ]
  refine wpAnyH_ready (rs := [4]) (by kernel_rfl) (by simp) ?_
  refine AllReadyH.cons rfl (fun K hK => ?_) AllReadyH.nil
  go_simp
  refine (form7_any M _).mono ?_
  rintro e y3 ⟨rfl, hb⟩
  have K4 := K4.below hb K4.lt
  have K5 := K5.below hb K5.lt
  have K8 := K8.below hb K8.lt
  have HB : Hid (Below w.heap.size w y3) := HB.out.trans (hb.mono HB.out.size)
  clear hb hHeld
  go_wp2_with fail
  refine hK.out _ _ K5 (fun hHeld => ?_)
  clear hK K
  try simp only [Act.put, List.setIfInBounds_toArray, List.set_cons_zero, List.set_cons_succ]
  refine wpAnyH_ready (rs := [5]) (by kernel_rfl) (by simp) ?_
  refine AllReadyH.cons rfl (fun K hK => ?_) AllReadyH.nil
  go_simp
  refine (HH.out _).mono ?_
  rintro e y4 ⟨rfl, hb⟩
  have K4 := K4.below hb K4.lt
  have K5 := K5.below hb K5.lt
  have K8 := K8.below hb K8.lt
  have HB : Hid (Below w.heap.size w y4) := HB.out.trans (hb.mono HB.out.size)
  clear hb hHeld
  go_wp2_with fail
  refine hK.out _ _ K5 (fun hHeld => ?_)
  clear hK K
  try simp only [Act.put, List.setIfInBounds_toArray, List.set_cons_zero, List.set_cons_succ]
  refine wpAnyH_take (i := 6) (oi := { dst := some 16, op := _, type := _, pos := _, after := _, guard := _ }) (v := .tuple #[.int .i64 TT, .agg (mk 2 CC), .bool OO]) rfl (by kernel_rfl) (by kernel_rfl) (by kernel_rfl) (fun _ _ _ h => h) (Or.inl ⟨by rfl, by intro w hSw; clear hSw; go_simp; (try with_reducible rfl)⟩) (by assumption) ?_
  try simp only [Act.put, List.setIfInBounds_toArray, List.set_cons_zero, List.set_cons_succ]
  refine wpAnyH_take (i := 7) (oi := { dst := some 23, op := _, type := _, pos := _, after := _, guard := _ }) (v := .int .i64 TT) rfl (by kernel_rfl) (by kernel_rfl) (by kernel_rfl) (fun _ _ _ h => h) (Or.inl ⟨by rfl, by intro w hSw; clear hSw; go_simp; (try with_reducible rfl)⟩) (by assumption) ?_
  try simp only [Act.put, List.setIfInBounds_toArray, List.set_cons_zero, List.set_cons_succ]
  refine wpAnyH_take (i := 8) (oi := { dst := some 24, op := _, type := _, pos := _, after := _, guard := _ }) (v := .agg (mk 2 CC)) rfl (by kernel_rfl) (by kernel_rfl) (by kernel_rfl) (fun _ _ _ h => h) (Or.inl ⟨by rfl, by intro w hSw; clear hSw; go_simp; (try with_reducible rfl)⟩) (by assumption) ?_
  try simp only [Act.put, List.setIfInBounds_toArray, List.set_cons_zero, List.set_cons_succ]
  refine wpAnyH_take (i := 9) (oi := { dst := some 25, op := _, type := _, pos := _, after := _, guard := _ }) (v := .bool OO) rfl (by kernel_rfl) (by kernel_rfl) (by kernel_rfl) (fun _ _ _ h => h) (Or.inl ⟨by rfl, by intro w hSw; clear hSw; go_simp; (try with_reducible rfl)⟩) (by assumption) ?_
  try simp only [Act.put, List.setIfInBounds_toArray, List.set_cons_zero, List.set_cons_succ]
  refine wpAnyH_take (i := 11) (oi := { dst := some 7, op := _, type := _, pos := _, after := _, guard := _ }) (v := .int .i64 TT) rfl (by kernel_rfl) (by kernel_rfl) (by kernel_rfl) (fun _ _ _ h => h) (Or.inl ⟨by rfl, by intro w hSw; clear hSw; go_simp; (try with_reducible rfl)⟩) (by assumption) ?_
  try simp only [Act.put, List.setIfInBounds_toArray, List.set_cons_zero, List.set_cons_succ]
  refine wpAnyH_ready (rs := [12]) (by kernel_rfl) (by simp) ?_
  refine AllReadyH.cons rfl (fun K hK => ?_) AllReadyH.nil
  rw [if_pos (by rfl)]
  refine wp_stC2 (off := 0) (g := CC) K8 (by omega) rfl rfl rfl ?_
  rw [HPT.out]
  have K4 := K4.rowOther b8 (mk 2 CC) (by have := H8.out; omega)
  have K5 := K5.rowOther b8 (mk 2 CC) (by have := H8.out; omega)
  have HB : Hid (Below w.heap.size w (y4.setRow b8 (mk 2 CC))) := below_setRow HB.out (by have := H8.out; omega) _
  have K8 := K8.row 2 CC
  generalize y4.setRow b8 (mk 2 CC) = z1 at *
  clear hHeld
  refine hK.out _ _ K5 (fun hHeld => ?_)
  clear hK K
  try simp only [Act.put, List.setIfInBounds_toArray, List.set_cons_zero, List.set_cons_succ]
  refine wpAnyH_take (i := 13) (oi := { dst := some 9, op := _, type := _, pos := _, after := _, guard := _ }) (v := .bool OO) rfl (by kernel_rfl) (by kernel_rfl) (by kernel_rfl) (fun _ _ _ h => h) (Or.inl ⟨by rfl, by intro w hSw; clear hSw; go_simp; (try with_reducible rfl)⟩) (by assumption) ?_
  try simp only [Act.put, List.setIfInBounds_toArray, List.set_cons_zero, List.set_cons_succ]
  refine wpAnyH_done (by kernel_rfl) ?_ _
  clear hHeld
  go_wp2_with (first | ((with_reducible show wpList _ _ _ (Oper.mk _ (Op.load 22 _) _ _ _ _ :: _) _ _); refine loadC (K8) rfl rfl rfl ?_) | ((with_reducible show wpList _ _ _ (Oper.mk _ (Op.store 22 _ _) _ _ _ _ :: _) _ _); refine storeC (K4) rfl rfl rfl rfl ?_))
  try simp only [Act.put, List.setIfInBounds_toArray, List.set_cons_zero, List.set_cons_succ]
  try simp only [Exit.inBlock, Exit.then]
  refine retcC (p := 4) (t := 22) (b := w.heap.size + 1) (f := CC) ?_ ?_ ?_ ?_ ?_
  · exact K4.row 2 CC
  · rfl
  · rfl
  · rfl
  · exact ⟨rfl, below_setRow HB.out (by omega) (mk 2 CC)⟩
end Go.Proofs.Ytmcmpedmgibmkab
