/-
  Proved: for every two boards and every number, the law FnExactChanceOfNext returns true, and all three read as they did. No condition.
-/
import Derived.Test.YtkocfpldgjfpeaaTellTops
import Derived.Test.YtkocfpldgjfpeaaBaseA
import Derived.Test.YtkocfpldgjfpeaaClosed
namespace Go.Proofs.Ytkocfpldgjfpeaa.fnExactChanceOfNext
open Go.ChangeShapes Go.WideShapes Go.ChangeAt Go.RowKit Plain
attribute [local go_sem] store_new
set_option linter.unusedVariables false
set_option linter.unusedSimpArgs false
theorem execK9 {o : Oper} {ev : Operand → Value} {w : World} {b : Nat} {f : Nat → Int} {t : TypeId} {x : Operand} (hg : Blk w b 16 f t) (ho : o.op = .load 25 x) (hx : ev x = .pointer (some ⟨b, 0, none⟩)) :
    (execOp ev o).run Try.prog w = .ok (.value (.agg (mk 16 f))) w := exec_load_blk _ x ho hx hg Try.underlying25 rfl sizeK
set_option maxHeartbeats 4000000 in
set_option maxRecDepth 20000 in
theorem walk (a0 : Nat → Int) (_ : ∀ i, i < 16 → (Lit.int .i64 (a0 i)).wf = true) (a1 : Int) (_ : (Lit.int .i64 a1).wf = true) (a2 : Nat → Int) (_ : ∀ i, i < 16 → (Lit.int .i64 (a2 i)).wf = true) (w : World) (_ : w.ShapedOpen Try.prog) :
    Calls Try.prog 3 #[.agg (mk 16 a0), .int .i64 a1, .agg (mk 16 a2)] w fun e w' => e = .returned (.bool true) ∧ Below w.heap.size w w' := by
  have z2 := zero2
  have K0 := (Blk.new w 16 a0 25).alloc (.cells (mk 16 a2) 25)
  have K1 := Blk.new (w.alloc (.cells (mk 16 a0) 25)) 16 a2 25
  have HX : Hid (Below w.heap.size w ((w.alloc (.cells (mk 16 a0) 25)).alloc (.cells (mk 16 a2) 25))) := by
    exact (((Below.refl w.heap.size w).alloc (Nat.le_refl _) _).alloc (by simp) _)
  simp only [World.size_alloc] at K1
  have SP := Lib.hid (fun W => specNextCh_any a0 a1 a2 W)
  have IM := Lib.hid (fun W => implNextCh_any a0 a1 a2 W)
  generalize fcF (nxF a0 a1 a2) = G at *
  generalize nxO a0 a1 a2 = O at *
  go_enter Try.func3, Try.ntmps3
  go_wp2_with fail
  generalize (w.alloc (.cells (mk 16 a0) 25)).alloc (.cells (mk 16 a2) 25) = w0 at *
  refine wp_region_held_drew (S := fun W => Blk W w.heap.size 16 a0 25 ∧ Blk W (w.heap.size + 1) 16 a2 25) (by kernel_rfl) (⟨K0.drew, K1.drew⟩) (fun hHeld => ?_)
  have K0 := K0.drew
  have K1 := K1.drew
  have HX : Hid (Below w.heap.size w w0.drew) := HX.out.drew
  clear hHeld
  generalize w0.drew = xw at *
  have hHeld : Blk xw w.heap.size 16 a0 25 ∧ Blk xw (w.heap.size + 1) 16 a2 25 := ⟨K0, K1⟩
  refine wpAnyH_take (i := 0) (oi := { dst := some 12, op := _, type := _, pos := _, after := _, guard := _ }) (v := .agg (mk 16 a0)) rfl (by kernel_rfl) (by kernel_rfl) (by kernel_rfl) (fun _ _ _ h => h) (Or.inl ⟨by rfl, fun _ q => execK9 q.1 rfl rfl⟩) (by assumption) ?_
  try simp only [Act.put, List.setIfInBounds_toArray, List.set_cons_zero, List.set_cons_succ]
  refine wpAnyH_take (i := 2) (oi := { dst := some 14, op := _, type := _, pos := _, after := _, guard := _ }) (v := .int .i64 a1) rfl (by kernel_rfl) (by kernel_rfl) (by kernel_rfl) (fun _ _ _ h => h) (Or.inl ⟨by rfl, by intro w hSw; clear hSw; go_simp; (try with_reducible rfl)⟩) (by assumption) ?_
  try simp only [Act.put, List.setIfInBounds_toArray, List.set_cons_zero, List.set_cons_succ]
  refine wpAnyH_take (i := 3) (oi := { dst := some 15, op := _, type := _, pos := _, after := _, guard := _ }) (v := .agg (mk 16 a2)) rfl (by kernel_rfl) (by kernel_rfl) (by kernel_rfl) (fun _ _ _ h => h) (Or.inl ⟨by rfl, fun _ q => execK9 q.2 rfl rfl⟩) (by assumption) ?_
  try simp only [Act.put, List.setIfInBounds_toArray, List.set_cons_zero, List.set_cons_succ]
  refine wpAnyH_ready (rs := [1, 9]) (by kernel_rfl) (by simp) ?_
  refine AllReadyH.cons rfl (fun K hK => ?_) ?_
  · go_simp
    refine (toBoard_any a0 _).mono ?_
    rintro e x1 ⟨rfl, hb⟩
    have K0 := K0.below hb K0.lt
    have K1 := K1.below hb K1.lt
    have HX : Hid (Below w.heap.size w x1) := HX.out.trans (hb.mono HX.out.size)
    clear hb hHeld
    go_wp2_with fail
    refine hK.out _ _ ⟨K0, K1⟩ (fun hHeld => ?_)
    clear hK K
    try simp only [Act.put, List.setIfInBounds_toArray, List.set_cons_zero, List.set_cons_succ]
    refine wpAnyH_ready (rs := [4, 9]) (by kernel_rfl) (by simp) ?_
    refine AllReadyH.cons rfl (fun K hK => ?_) ?_
    · go_simp
      refine (toBoard_any a2 _).mono ?_
      rintro e x2 ⟨rfl, hb⟩
      have K0 := K0.below hb K0.lt
      have K1 := K1.below hb K1.lt
      have HX : Hid (Below w.heap.size w x2) := HX.out.trans (hb.mono HX.out.size)
      clear hb hHeld
      go_wp2_with fail
      refine hK.out _ _ ⟨K0, K1⟩ (fun hHeld => ?_)
      clear hK K
      try simp only [Act.put, List.setIfInBounds_toArray, List.set_cons_zero, List.set_cons_succ]
      refine wpAnyH_ready (rs := [5, 9]) (by kernel_rfl) (by simp) ?_
      refine AllReadyH.cons rfl (fun K hK => ?_) ?_
      · go_simp
        refine (SP.out _).mono ?_
        rintro e x3 ⟨rfl, hb⟩
        have K0 := K0.below hb K0.lt
        have K1 := K1.below hb K1.lt
        have HX : Hid (Below w.heap.size w x3) := HX.out.trans (hb.mono HX.out.size)
        clear hb hHeld
        go_wp2_with fail
        refine hK.out _ _ ⟨K0, K1⟩ (fun hHeld => ?_)
        clear hK K
        try simp only [Act.put, List.setIfInBounds_toArray, List.set_cons_zero, List.set_cons_succ]
        refine wpAnyH_take (i := 6) (oi := { dst := some 11, op := _, type := _, pos := _, after := _, guard := _ }) (v := .tuple #[.agg (mk 2 G), .bool O]) rfl (by kernel_rfl) (by kernel_rfl) (by kernel_rfl) (fun _ _ _ h => h) (Or.inl ⟨by rfl, by intro w hSw; clear hSw; go_simp; (try with_reducible rfl)⟩) (by assumption) ?_
        try simp only [Act.put, List.setIfInBounds_toArray, List.set_cons_zero, List.set_cons_succ]
        refine wpAnyH_take (i := 7) (oi := { dst := some 18, op := _, type := _, pos := _, after := _, guard := _ }) (v := .agg (mk 2 G)) rfl (by kernel_rfl) (by kernel_rfl) (by kernel_rfl) (fun _ _ _ h => h) (Or.inl ⟨by rfl, by intro w hSw; clear hSw; go_simp; (try with_reducible rfl)⟩) (by assumption) ?_
        try simp only [Act.put, List.setIfInBounds_toArray, List.set_cons_zero, List.set_cons_succ]
        refine wpAnyH_take (i := 8) (oi := { dst := some 19, op := _, type := _, pos := _, after := _, guard := _ }) (v := .bool O) rfl (by kernel_rfl) (by kernel_rfl) (by kernel_rfl) (fun _ _ _ h => h) (Or.inl ⟨by rfl, by intro w hSw; clear hSw; go_simp; (try with_reducible rfl)⟩) (by assumption) ?_
        try simp only [Act.put, List.setIfInBounds_toArray, List.set_cons_zero, List.set_cons_succ]
        refine wpAnyH_ready (rs := [9]) (by kernel_rfl) (by simp) ?_
        refine AllReadyH.cons rfl (fun K hK => ?_) AllReadyH.nil
        go_simp
        clear hHeld
        have hlb : w.heap.size + 1 < x3.heap.size := K1.lt
        have KN := Blk.new x3 2 (fun _ => 0) 26
        have K0 := K0.alloc (.cells (mk 2 fun _ => 0) 26)
        have K1 := K1.alloc (.cells (mk 2 fun _ => 0) 26)
        have HX : Hid (Below w.heap.size w (x3.alloc (.cells (mk 2 fun _ => 0) 26))) := HX.out.alloc HX.out.size _
        generalize x3.alloc (.cells (mk 2 fun _ => 0) 26) = xn4 at *
        generalize x3.heap.size = bN at *
        refine hK.out _ _ ⟨K0, K1⟩ (fun hHeld => ?_)
        clear hK K
        try simp only [Act.put, List.setIfInBounds_toArray, List.set_cons_zero, List.set_cons_succ]
        refine wpAnyH_ready (rs := [10]) (by kernel_rfl) (by simp) ?_
        refine AllReadyH.cons rfl (fun K hK => ?_) AllReadyH.nil
        have st1 := run_store_blk (P := Try.prog) (g := G) KN
        have ms1 : (mk 2 G).size = 2 := mk_size 2 _
        go_simp
        clear st1 ms1 hHeld
        have K0 := K0.rowOther bN (mk 2 G) (by omega)
        have K1 := K1.rowOther bN (mk 2 G) (by omega)
        have HX : Hid (Below w.heap.size w (xn4.setRow bN (mk 2 G))) := below_setRow HX.out (by omega) _
        have KN := KN.row 2 G
        generalize xn4.setRow bN (mk 2 G) = xs5 at *
        refine hK.out _ _ ⟨K0, K1⟩ (fun hHeld => ?_)
        clear hK K
        try simp only [Act.put, List.setIfInBounds_toArray, List.set_cons_zero, List.set_cons_succ]
        refine wpAnyH_take (i := 11) (oi := { dst := some 8, op := _, type := _, pos := _, after := _, guard := _ }) (v := .bool O) rfl (by kernel_rfl) (by kernel_rfl) (by kernel_rfl) (fun _ _ _ h => h) (Or.inl ⟨by rfl, by intro w hSw; clear hSw; go_simp; (try with_reducible rfl)⟩) (by assumption) ?_
        try simp only [Act.put, List.setIfInBounds_toArray, List.set_cons_zero, List.set_cons_succ]
        refine wpAnyH_done (by kernel_rfl) ?_ _
        clear hHeld
        have KS := KN
        clear KN
        generalize hbS : bN = bS at *
        clear hbS
        go_wp2_with fail
        refine wp_region_held_drew (S := fun W => Blk W w.heap.size 16 a0 25 ∧ Blk W (w.heap.size + 1) 16 a2 25) (by kernel_rfl) (⟨K0.drew, K1.drew⟩) (fun hHeld => ?_)
        have K0 := K0.drew
        have K1 := K1.drew
        have KS := KS.drew
        have HX : Hid (Below w.heap.size w xs5.drew) := HX.out.drew
        clear hHeld
        generalize xs5.drew = yw at *
        have hHeld : Blk yw w.heap.size 16 a0 25 ∧ Blk yw (w.heap.size + 1) 16 a2 25 := ⟨K0, K1⟩
        refine wpAnyH_take (i := 0) (oi := { dst := some 21, op := _, type := _, pos := _, after := _, guard := _ }) (v := .agg (mk 16 a0)) rfl (by kernel_rfl) (by kernel_rfl) (by kernel_rfl) (fun _ _ _ h => h) (Or.inl ⟨by rfl, fun _ q => execK9 q.1 rfl rfl⟩) (by assumption) ?_
        try simp only [Act.put, List.setIfInBounds_toArray, List.set_cons_zero, List.set_cons_succ]
        refine wpAnyH_take (i := 2) (oi := { dst := some 23, op := _, type := _, pos := _, after := _, guard := _ }) (v := .int .i64 a1) rfl (by kernel_rfl) (by kernel_rfl) (by kernel_rfl) (fun _ _ _ h => h) (Or.inl ⟨by rfl, by intro w hSw; clear hSw; go_simp; (try with_reducible rfl)⟩) (by assumption) ?_
        try simp only [Act.put, List.setIfInBounds_toArray, List.set_cons_zero, List.set_cons_succ]
        refine wpAnyH_take (i := 3) (oi := { dst := some 24, op := _, type := _, pos := _, after := _, guard := _ }) (v := .agg (mk 16 a2)) rfl (by kernel_rfl) (by kernel_rfl) (by kernel_rfl) (fun _ _ _ h => h) (Or.inl ⟨by rfl, fun _ q => execK9 q.2 rfl rfl⟩) (by assumption) ?_
        try simp only [Act.put, List.setIfInBounds_toArray, List.set_cons_zero, List.set_cons_succ]
        refine wpAnyH_ready (rs := [1, 9]) (by kernel_rfl) (by simp) ?_
        refine AllReadyH.cons rfl (fun K hK => ?_) ?_
        · go_simp
          refine (toBoard_any a0 _).mono ?_
          rintro e y1 ⟨rfl, hb⟩
          have K0 := K0.below hb K0.lt
          have K1 := K1.below hb K1.lt
          have KS := KS.below hb KS.lt
          have HX : Hid (Below w.heap.size w y1) := HX.out.trans (hb.mono HX.out.size)
          clear hb hHeld
          go_wp2_with fail
          refine hK.out _ _ ⟨K0, K1⟩ (fun hHeld => ?_)
          clear hK K
          try simp only [Act.put, List.setIfInBounds_toArray, List.set_cons_zero, List.set_cons_succ]
          refine wpAnyH_ready (rs := [4, 9]) (by kernel_rfl) (by simp) ?_
          refine AllReadyH.cons rfl (fun K hK => ?_) ?_
          · go_simp
            refine (toBoard_any a2 _).mono ?_
            rintro e y2 ⟨rfl, hb⟩
            have K0 := K0.below hb K0.lt
            have K1 := K1.below hb K1.lt
            have KS := KS.below hb KS.lt
            have HX : Hid (Below w.heap.size w y2) := HX.out.trans (hb.mono HX.out.size)
            clear hb hHeld
            go_wp2_with fail
            refine hK.out _ _ ⟨K0, K1⟩ (fun hHeld => ?_)
            clear hK K
            try simp only [Act.put, List.setIfInBounds_toArray, List.set_cons_zero, List.set_cons_succ]
            refine wpAnyH_ready (rs := [5, 9]) (by kernel_rfl) (by simp) ?_
            refine AllReadyH.cons rfl (fun K hK => ?_) ?_
            · go_simp
              refine (IM.out _).mono ?_
              rintro e y3 ⟨rfl, hb⟩
              have K0 := K0.below hb K0.lt
              have K1 := K1.below hb K1.lt
              have KS := KS.below hb KS.lt
              have HX : Hid (Below w.heap.size w y3) := HX.out.trans (hb.mono HX.out.size)
              clear hb hHeld
              go_wp2_with fail
              refine hK.out _ _ ⟨K0, K1⟩ (fun hHeld => ?_)
              clear hK K
              try simp only [Act.put, List.setIfInBounds_toArray, List.set_cons_zero, List.set_cons_succ]
              refine wpAnyH_take (i := 6) (oi := { dst := some 20, op := _, type := _, pos := _, after := _, guard := _ }) (v := .tuple #[.agg (mk 2 G), .bool O]) rfl (by kernel_rfl) (by kernel_rfl) (by kernel_rfl) (fun _ _ _ h => h) (Or.inl ⟨by rfl, by intro w hSw; clear hSw; go_simp; (try with_reducible rfl)⟩) (by assumption) ?_
              try simp only [Act.put, List.setIfInBounds_toArray, List.set_cons_zero, List.set_cons_succ]
              refine wpAnyH_take (i := 7) (oi := { dst := some 27, op := _, type := _, pos := _, after := _, guard := _ }) (v := .agg (mk 2 G)) rfl (by kernel_rfl) (by kernel_rfl) (by kernel_rfl) (fun _ _ _ h => h) (Or.inl ⟨by rfl, by intro w hSw; clear hSw; go_simp; (try with_reducible rfl)⟩) (by assumption) ?_
              try simp only [Act.put, List.setIfInBounds_toArray, List.set_cons_zero, List.set_cons_succ]
              refine wpAnyH_take (i := 8) (oi := { dst := some 28, op := _, type := _, pos := _, after := _, guard := _ }) (v := .bool O) rfl (by kernel_rfl) (by kernel_rfl) (by kernel_rfl) (fun _ _ _ h => h) (Or.inl ⟨by rfl, by intro w hSw; clear hSw; go_simp; (try with_reducible rfl)⟩) (by assumption) ?_
              try simp only [Act.put, List.setIfInBounds_toArray, List.set_cons_zero, List.set_cons_succ]
              refine wpAnyH_ready (rs := [9]) (by kernel_rfl) (by simp) ?_
              refine AllReadyH.cons rfl (fun K hK => ?_) AllReadyH.nil
              go_simp
              clear hHeld
              have hlb : w.heap.size + 1 < y3.heap.size := K1.lt
              have hls : bS < y3.heap.size := KS.lt
              have KN := Blk.new y3 2 (fun _ => 0) 26
              have K0 := K0.alloc (.cells (mk 2 fun _ => 0) 26)
              have K1 := K1.alloc (.cells (mk 2 fun _ => 0) 26)
              have KS := KS.alloc (.cells (mk 2 fun _ => 0) 26)
              have HX : Hid (Below w.heap.size w (y3.alloc (.cells (mk 2 fun _ => 0) 26))) := HX.out.alloc HX.out.size _
              generalize y3.alloc (.cells (mk 2 fun _ => 0) 26) = yn4 at *
              generalize y3.heap.size = bN at *
              refine hK.out _ _ ⟨K0, K1⟩ (fun hHeld => ?_)
              clear hK K
              try simp only [Act.put, List.setIfInBounds_toArray, List.set_cons_zero, List.set_cons_succ]
              refine wpAnyH_ready (rs := [10]) (by kernel_rfl) (by simp) ?_
              refine AllReadyH.cons rfl (fun K hK => ?_) AllReadyH.nil
              have st1 := run_store_blk (P := Try.prog) (g := G) KN
              have ms1 : (mk 2 G).size = 2 := mk_size 2 _
              go_simp
              clear st1 ms1 hHeld
              have K0 := K0.rowOther bN (mk 2 G) (by omega)
              have K1 := K1.rowOther bN (mk 2 G) (by omega)
              have KS := KS.rowOther bN (mk 2 G) (by omega)
              have HX : Hid (Below w.heap.size w (yn4.setRow bN (mk 2 G))) := below_setRow HX.out (by omega) _
              have KN := KN.row 2 G
              generalize yn4.setRow bN (mk 2 G) = ys5 at *
              refine hK.out _ _ ⟨K0, K1⟩ (fun hHeld => ?_)
              clear hK K
              try simp only [Act.put, List.setIfInBounds_toArray, List.set_cons_zero, List.set_cons_succ]
              refine wpAnyH_take (i := 11) (oi := { dst := some 10, op := _, type := _, pos := _, after := _, guard := _ }) (v := .bool O) rfl (by kernel_rfl) (by kernel_rfl) (by kernel_rfl) (fun _ _ _ h => h) (Or.inl ⟨by rfl, by intro w hSw; clear hSw; go_simp; (try with_reducible rfl)⟩) (by assumption) ?_
              try simp only [Act.put, List.setIfInBounds_toArray, List.set_cons_zero, List.set_cons_succ]
              refine wpAnyH_done (by kernel_rfl) ?_ _
              clear hHeld
              go_wp2_with (first | ((with_reducible show wpList _ _ _ (Oper.mk _ (Op.load 26 _) _ _ _ _ :: _) _ _); refine loadC (KN) rfl rfl rfl ?_) | ((with_reducible show wpList _ _ _ (Oper.mk _ (Op.load 26 _) _ _ _ _ :: _) _ _); refine loadC (KS) rfl rfl rfl ?_))
              refine (eqIntA2_same _ _).mono ?_
              rintro e wz ⟨rfl, hb⟩
              have HX : Hid (Below w.heap.size w wz) := HX.out.trans (hb.mono HX.out.size)
              clear hb
              go_wp2_with fail
              go_ret
              exact ⟨rfl, HX.out⟩
            refine AllReadyH.cons rfl (fun K hK => ?_) AllReadyH.nil
            go_simp
            clear hHeld
            have hlb : w.heap.size + 1 < y2.heap.size := K1.lt
            have hls : bS < y2.heap.size := KS.lt
            have KN := Blk.new y2 2 (fun _ => 0) 26
            have K0 := K0.alloc (.cells (mk 2 fun _ => 0) 26)
            have K1 := K1.alloc (.cells (mk 2 fun _ => 0) 26)
            have KS := KS.alloc (.cells (mk 2 fun _ => 0) 26)
            have HX : Hid (Below w.heap.size w (y2.alloc (.cells (mk 2 fun _ => 0) 26))) := HX.out.alloc HX.out.size _
            generalize y2.alloc (.cells (mk 2 fun _ => 0) 26) = yn6 at *
            generalize y2.heap.size = bN at *
            refine hK.out _ _ ⟨K0, K1⟩ (fun hHeld => ?_)
            clear hK K
            try simp only [Act.put, List.setIfInBounds_toArray, List.set_cons_zero, List.set_cons_succ]
            refine wpAnyH_ready (rs := [5]) (by kernel_rfl) (by simp) ?_
            refine AllReadyH.cons rfl (fun K hK => ?_) AllReadyH.nil
            go_simp
            refine (IM.out _).mono ?_
            rintro e y7 ⟨rfl, hb⟩
            have K0 := K0.below hb K0.lt
            have K1 := K1.below hb K1.lt
            have KS := KS.below hb KS.lt
            have KN := KN.below hb KN.lt
            have HX : Hid (Below w.heap.size w y7) := HX.out.trans (hb.mono HX.out.size)
            clear hb hHeld
            go_wp2_with fail
            refine hK.out _ _ ⟨K0, K1⟩ (fun hHeld => ?_)
            clear hK K
            try simp only [Act.put, List.setIfInBounds_toArray, List.set_cons_zero, List.set_cons_succ]
            refine wpAnyH_take (i := 6) (oi := { dst := some 20, op := _, type := _, pos := _, after := _, guard := _ }) (v := .tuple #[.agg (mk 2 G), .bool O]) rfl (by kernel_rfl) (by kernel_rfl) (by kernel_rfl) (fun _ _ _ h => h) (Or.inl ⟨by rfl, by intro w hSw; clear hSw; go_simp; (try with_reducible rfl)⟩) (by assumption) ?_
            try simp only [Act.put, List.setIfInBounds_toArray, List.set_cons_zero, List.set_cons_succ]
            refine wpAnyH_take (i := 7) (oi := { dst := some 27, op := _, type := _, pos := _, after := _, guard := _ }) (v := .agg (mk 2 G)) rfl (by kernel_rfl) (by kernel_rfl) (by kernel_rfl) (fun _ _ _ h => h) (Or.inl ⟨by rfl, by intro w hSw; clear hSw; go_simp; (try with_reducible rfl)⟩) (by assumption) ?_
            try simp only [Act.put, List.setIfInBounds_toArray, List.set_cons_zero, List.set_cons_succ]
            refine wpAnyH_take (i := 8) (oi := { dst := some 28, op := _, type := _, pos := _, after := _, guard := _ }) (v := .bool O) rfl (by kernel_rfl) (by kernel_rfl) (by kernel_rfl) (fun _ _ _ h => h) (Or.inl ⟨by rfl, by intro w hSw; clear hSw; go_simp; (try with_reducible rfl)⟩) (by assumption) ?_
            try simp only [Act.put, List.setIfInBounds_toArray, List.set_cons_zero, List.set_cons_succ]
            refine wpAnyH_ready (rs := [10]) (by kernel_rfl) (by simp) ?_
            refine AllReadyH.cons rfl (fun K hK => ?_) AllReadyH.nil
            have st1 := run_store_blk (P := Try.prog) (g := G) KN
            have ms1 : (mk 2 G).size = 2 := mk_size 2 _
            go_simp
            clear st1 ms1 hHeld
            have K0 := K0.rowOther bN (mk 2 G) (by omega)
            have K1 := K1.rowOther bN (mk 2 G) (by omega)
            have KS := KS.rowOther bN (mk 2 G) (by omega)
            have HX : Hid (Below w.heap.size w (y7.setRow bN (mk 2 G))) := below_setRow HX.out (by omega) _
            have KN := KN.row 2 G
            generalize y7.setRow bN (mk 2 G) = ys8 at *
            refine hK.out _ _ ⟨K0, K1⟩ (fun hHeld => ?_)
            clear hK K
            try simp only [Act.put, List.setIfInBounds_toArray, List.set_cons_zero, List.set_cons_succ]
            refine wpAnyH_take (i := 11) (oi := { dst := some 10, op := _, type := _, pos := _, after := _, guard := _ }) (v := .bool O) rfl (by kernel_rfl) (by kernel_rfl) (by kernel_rfl) (fun _ _ _ h => h) (Or.inl ⟨by rfl, by intro w hSw; clear hSw; go_simp; (try with_reducible rfl)⟩) (by assumption) ?_
            try simp only [Act.put, List.setIfInBounds_toArray, List.set_cons_zero, List.set_cons_succ]
            refine wpAnyH_done (by kernel_rfl) ?_ _
            clear hHeld
            go_wp2_with (first | ((with_reducible show wpList _ _ _ (Oper.mk _ (Op.load 26 _) _ _ _ _ :: _) _ _); refine loadC (KN) rfl rfl rfl ?_) | ((with_reducible show wpList _ _ _ (Oper.mk _ (Op.load 26 _) _ _ _ _ :: _) _ _); refine loadC (KS) rfl rfl rfl ?_))
            refine (eqIntA2_same _ _).mono ?_
            rintro e wz ⟨rfl, hb⟩
            have HX : Hid (Below w.heap.size w wz) := HX.out.trans (hb.mono HX.out.size)
            clear hb
            go_wp2_with fail
            go_ret
            exact ⟨rfl, HX.out⟩
          refine AllReadyH.cons rfl (fun K hK => ?_) AllReadyH.nil
          go_simp
          clear hHeld
          have hlb : w.heap.size + 1 < y1.heap.size := K1.lt
          have hls : bS < y1.heap.size := KS.lt
          have KN := Blk.new y1 2 (fun _ => 0) 26
          have K0 := K0.alloc (.cells (mk 2 fun _ => 0) 26)
          have K1 := K1.alloc (.cells (mk 2 fun _ => 0) 26)
          have KS := KS.alloc (.cells (mk 2 fun _ => 0) 26)
          have HX : Hid (Below w.heap.size w (y1.alloc (.cells (mk 2 fun _ => 0) 26))) := HX.out.alloc HX.out.size _
          generalize y1.alloc (.cells (mk 2 fun _ => 0) 26) = yn9 at *
          generalize y1.heap.size = bN at *
          refine hK.out _ _ ⟨K0, K1⟩ (fun hHeld => ?_)
          clear hK K
          try simp only [Act.put, List.setIfInBounds_toArray, List.set_cons_zero, List.set_cons_succ]
          refine wpAnyH_ready (rs := [4]) (by kernel_rfl) (by simp) ?_
          refine AllReadyH.cons rfl (fun K hK => ?_) AllReadyH.nil
          go_simp
          refine (toBoard_any a2 _).mono ?_
          rintro e y10 ⟨rfl, hb⟩
          have K0 := K0.below hb K0.lt
          have K1 := K1.below hb K1.lt
          have KS := KS.below hb KS.lt
          have KN := KN.below hb KN.lt
          have HX : Hid (Below w.heap.size w y10) := HX.out.trans (hb.mono HX.out.size)
          clear hb hHeld
          go_wp2_with fail
          refine hK.out _ _ ⟨K0, K1⟩ (fun hHeld => ?_)
          clear hK K
          try simp only [Act.put, List.setIfInBounds_toArray, List.set_cons_zero, List.set_cons_succ]
          refine wpAnyH_ready (rs := [5]) (by kernel_rfl) (by simp) ?_
          refine AllReadyH.cons rfl (fun K hK => ?_) AllReadyH.nil
          go_simp
          refine (IM.out _).mono ?_
          rintro e y11 ⟨rfl, hb⟩
          have K0 := K0.below hb K0.lt
          have K1 := K1.below hb K1.lt
          have KS := KS.below hb KS.lt
          have KN := KN.below hb KN.lt
          have HX : Hid (Below w.heap.size w y11) := HX.out.trans (hb.mono HX.out.size)
          clear hb hHeld
          go_wp2_with fail
          refine hK.out _ _ ⟨K0, K1⟩ (fun hHeld => ?_)
          clear hK K
          try simp only [Act.put, List.setIfInBounds_toArray, List.set_cons_zero, List.set_cons_succ]
          refine wpAnyH_take (i := 6) (oi := { dst := some 20, op := _, type := _, pos := _, after := _, guard := _ }) (v := .tuple #[.agg (mk 2 G), .bool O]) rfl (by kernel_rfl) (by kernel_rfl) (by kernel_rfl) (fun _ _ _ h => h) (Or.inl ⟨by rfl, by intro w hSw; clear hSw; go_simp; (try with_reducible rfl)⟩) (by assumption) ?_
          try simp only [Act.put, List.setIfInBounds_toArray, List.set_cons_zero, List.set_cons_succ]
          refine wpAnyH_take (i := 7) (oi := { dst := some 27, op := _, type := _, pos := _, after := _, guard := _ }) (v := .agg (mk 2 G)) rfl (by kernel_rfl) (by kernel_rfl) (by kernel_rfl) (fun _ _ _ h => h) (Or.inl ⟨by rfl, by intro w hSw; clear hSw; go_simp; (try with_reducible rfl)⟩) (by assumption) ?_
          try simp only [Act.put, List.setIfInBounds_toArray, List.set_cons_zero, List.set_cons_succ]
          refine wpAnyH_take (i := 8) (oi := { dst := some 28, op := _, type := _, pos := _, after := _, guard := _ }) (v := .bool O) rfl (by kernel_rfl) (by kernel_rfl) (by kernel_rfl) (fun _ _ _ h => h) (Or.inl ⟨by rfl, by intro w hSw; clear hSw; go_simp; (try with_reducible rfl)⟩) (by assumption) ?_
          try simp only [Act.put, List.setIfInBounds_toArray, List.set_cons_zero, List.set_cons_succ]
          refine wpAnyH_ready (rs := [10]) (by kernel_rfl) (by simp) ?_
          refine AllReadyH.cons rfl (fun K hK => ?_) AllReadyH.nil
          have st1 := run_store_blk (P := Try.prog) (g := G) KN
          have ms1 : (mk 2 G).size = 2 := mk_size 2 _
          go_simp
          clear st1 ms1 hHeld
          have K0 := K0.rowOther bN (mk 2 G) (by omega)
          have K1 := K1.rowOther bN (mk 2 G) (by omega)
          have KS := KS.rowOther bN (mk 2 G) (by omega)
          have HX : Hid (Below w.heap.size w (y11.setRow bN (mk 2 G))) := below_setRow HX.out (by omega) _
          have KN := KN.row 2 G
          generalize y11.setRow bN (mk 2 G) = ys12 at *
          refine hK.out _ _ ⟨K0, K1⟩ (fun hHeld => ?_)
          clear hK K
          try simp only [Act.put, List.setIfInBounds_toArray, List.set_cons_zero, List.set_cons_succ]
          refine wpAnyH_take (i := 11) (oi := { dst := some 10, op := _, type := _, pos := _, after := _, guard := _ }) (v := .bool O) rfl (by kernel_rfl) (by kernel_rfl) (by kernel_rfl) (fun _ _ _ h => h) (Or.inl ⟨by rfl, by intro w hSw; clear hSw; go_simp; (try with_reducible rfl)⟩) (by assumption) ?_
          try simp only [Act.put, List.setIfInBounds_toArray, List.set_cons_zero, List.set_cons_succ]
          refine wpAnyH_done (by kernel_rfl) ?_ _
          clear hHeld
          go_wp2_with (first | ((with_reducible show wpList _ _ _ (Oper.mk _ (Op.load 26 _) _ _ _ _ :: _) _ _); refine loadC (KN) rfl rfl rfl ?_) | ((with_reducible show wpList _ _ _ (Oper.mk _ (Op.load 26 _) _ _ _ _ :: _) _ _); refine loadC (KS) rfl rfl rfl ?_))
          refine (eqIntA2_same _ _).mono ?_
          rintro e wz ⟨rfl, hb⟩
          have HX : Hid (Below w.heap.size w wz) := HX.out.trans (hb.mono HX.out.size)
          clear hb
          go_wp2_with fail
          go_ret
          exact ⟨rfl, HX.out⟩
        refine AllReadyH.cons rfl (fun K hK => ?_) AllReadyH.nil
        go_simp
        clear hHeld
        have hlb : w.heap.size + 1 < yw.heap.size := K1.lt
        have hls : bS < yw.heap.size := KS.lt
        have KN := Blk.new yw 2 (fun _ => 0) 26
        have K0 := K0.alloc (.cells (mk 2 fun _ => 0) 26)
        have K1 := K1.alloc (.cells (mk 2 fun _ => 0) 26)
        have KS := KS.alloc (.cells (mk 2 fun _ => 0) 26)
        have HX : Hid (Below w.heap.size w (yw.alloc (.cells (mk 2 fun _ => 0) 26))) := HX.out.alloc HX.out.size _
        generalize yw.alloc (.cells (mk 2 fun _ => 0) 26) = yn13 at *
        generalize yw.heap.size = bN at *
        refine hK.out _ _ ⟨K0, K1⟩ (fun hHeld => ?_)
        clear hK K
        try simp only [Act.put, List.setIfInBounds_toArray, List.set_cons_zero, List.set_cons_succ]
        refine wpAnyH_ready (rs := [1]) (by kernel_rfl) (by simp) ?_
        refine AllReadyH.cons rfl (fun K hK => ?_) AllReadyH.nil
        go_simp
        refine (toBoard_any a0 _).mono ?_
        rintro e y14 ⟨rfl, hb⟩
        have K0 := K0.below hb K0.lt
        have K1 := K1.below hb K1.lt
        have KS := KS.below hb KS.lt
        have KN := KN.below hb KN.lt
        have HX : Hid (Below w.heap.size w y14) := HX.out.trans (hb.mono HX.out.size)
        clear hb hHeld
        go_wp2_with fail
        refine hK.out _ _ ⟨K0, K1⟩ (fun hHeld => ?_)
        clear hK K
        try simp only [Act.put, List.setIfInBounds_toArray, List.set_cons_zero, List.set_cons_succ]
        refine wpAnyH_ready (rs := [4]) (by kernel_rfl) (by simp) ?_
        refine AllReadyH.cons rfl (fun K hK => ?_) AllReadyH.nil
        go_simp
        refine (toBoard_any a2 _).mono ?_
        rintro e y15 ⟨rfl, hb⟩
        have K0 := K0.below hb K0.lt
        have K1 := K1.below hb K1.lt
        have KS := KS.below hb KS.lt
        have KN := KN.below hb KN.lt
        have HX : Hid (Below w.heap.size w y15) := HX.out.trans (hb.mono HX.out.size)
        clear hb hHeld
        go_wp2_with fail
        refine hK.out _ _ ⟨K0, K1⟩ (fun hHeld => ?_)
        clear hK K
        try simp only [Act.put, List.setIfInBounds_toArray, List.set_cons_zero, List.set_cons_succ]
        refine wpAnyH_ready (rs := [5]) (by kernel_rfl) (by simp) ?_
        refine AllReadyH.cons rfl (fun K hK => ?_) AllReadyH.nil
        go_simp
        refine (IM.out _).mono ?_
        rintro e y16 ⟨rfl, hb⟩
        have K0 := K0.below hb K0.lt
        have K1 := K1.below hb K1.lt
        have KS := KS.below hb KS.lt
        have KN := KN.below hb KN.lt
        have HX : Hid (Below w.heap.size w y16) := HX.out.trans (hb.mono HX.out.size)
        clear hb hHeld
        go_wp2_with fail
        refine hK.out _ _ ⟨K0, K1⟩ (fun hHeld => ?_)
        clear hK K
        try simp only [Act.put, List.setIfInBounds_toArray, List.set_cons_zero, List.set_cons_succ]
        refine wpAnyH_take (i := 6) (oi := { dst := some 20, op := _, type := _, pos := _, after := _, guard := _ }) (v := .tuple #[.agg (mk 2 G), .bool O]) rfl (by kernel_rfl) (by kernel_rfl) (by kernel_rfl) (fun _ _ _ h => h) (Or.inl ⟨by rfl, by intro w hSw; clear hSw; go_simp; (try with_reducible rfl)⟩) (by assumption) ?_
        try simp only [Act.put, List.setIfInBounds_toArray, List.set_cons_zero, List.set_cons_succ]
        refine wpAnyH_take (i := 7) (oi := { dst := some 27, op := _, type := _, pos := _, after := _, guard := _ }) (v := .agg (mk 2 G)) rfl (by kernel_rfl) (by kernel_rfl) (by kernel_rfl) (fun _ _ _ h => h) (Or.inl ⟨by rfl, by intro w hSw; clear hSw; go_simp; (try with_reducible rfl)⟩) (by assumption) ?_
        try simp only [Act.put, List.setIfInBounds_toArray, List.set_cons_zero, List.set_cons_succ]
        refine wpAnyH_take (i := 8) (oi := { dst := some 28, op := _, type := _, pos := _, after := _, guard := _ }) (v := .bool O) rfl (by kernel_rfl) (by kernel_rfl) (by kernel_rfl) (fun _ _ _ h => h) (Or.inl ⟨by rfl, by intro w hSw; clear hSw; go_simp; (try with_reducible rfl)⟩) (by assumption) ?_
        try simp only [Act.put, List.setIfInBounds_toArray, List.set_cons_zero, List.set_cons_succ]
        refine wpAnyH_ready (rs := [10]) (by kernel_rfl) (by simp) ?_
        refine AllReadyH.cons rfl (fun K hK => ?_) AllReadyH.nil
        have st1 := run_store_blk (P := Try.prog) (g := G) KN
        have ms1 : (mk 2 G).size = 2 := mk_size 2 _
        go_simp
        clear st1 ms1 hHeld
        have K0 := K0.rowOther bN (mk 2 G) (by omega)
        have K1 := K1.rowOther bN (mk 2 G) (by omega)
        have KS := KS.rowOther bN (mk 2 G) (by omega)
        have HX : Hid (Below w.heap.size w (y16.setRow bN (mk 2 G))) := below_setRow HX.out (by omega) _
        have KN := KN.row 2 G
        generalize y16.setRow bN (mk 2 G) = ys17 at *
        refine hK.out _ _ ⟨K0, K1⟩ (fun hHeld => ?_)
        clear hK K
        try simp only [Act.put, List.setIfInBounds_toArray, List.set_cons_zero, List.set_cons_succ]
        refine wpAnyH_take (i := 11) (oi := { dst := some 10, op := _, type := _, pos := _, after := _, guard := _ }) (v := .bool O) rfl (by kernel_rfl) (by kernel_rfl) (by kernel_rfl) (fun _ _ _ h => h) (Or.inl ⟨by rfl, by intro w hSw; clear hSw; go_simp; (try with_reducible rfl)⟩) (by assumption) ?_
        try simp only [Act.put, List.setIfInBounds_toArray, List.set_cons_zero, List.set_cons_succ]
        refine wpAnyH_done (by kernel_rfl) ?_ _
        clear hHeld
        go_wp2_with (first | ((with_reducible show wpList _ _ _ (Oper.mk _ (Op.load 26 _) _ _ _ _ :: _) _ _); refine loadC (KN) rfl rfl rfl ?_) | ((with_reducible show wpList _ _ _ (Oper.mk _ (Op.load 26 _) _ _ _ _ :: _) _ _); refine loadC (KS) rfl rfl rfl ?_))
        refine (eqIntA2_same _ _).mono ?_
        rintro e wz ⟨rfl, hb⟩
        have HX : Hid (Below w.heap.size w wz) := HX.out.trans (hb.mono HX.out.size)
        clear hb
        go_wp2_with fail
        go_ret
        exact ⟨rfl, HX.out⟩
      refine AllReadyH.cons rfl (fun K hK => ?_) AllReadyH.nil
      go_simp
      clear hHeld
      have hlb : w.heap.size + 1 < x2.heap.size := K1.lt
      have KN := Blk.new x2 2 (fun _ => 0) 26
      have K0 := K0.alloc (.cells (mk 2 fun _ => 0) 26)
      have K1 := K1.alloc (.cells (mk 2 fun _ => 0) 26)
      have HX : Hid (Below w.heap.size w (x2.alloc (.cells (mk 2 fun _ => 0) 26))) := HX.out.alloc HX.out.size _
      generalize x2.alloc (.cells (mk 2 fun _ => 0) 26) = xn6 at *
      generalize x2.heap.size = bN at *
      refine hK.out _ _ ⟨K0, K1⟩ (fun hHeld => ?_)
      clear hK K
      try simp only [Act.put, List.setIfInBounds_toArray, List.set_cons_zero, List.set_cons_succ]
      refine wpAnyH_ready (rs := [5]) (by kernel_rfl) (by simp) ?_
      refine AllReadyH.cons rfl (fun K hK => ?_) AllReadyH.nil
      go_simp
      refine (SP.out _).mono ?_
      rintro e x7 ⟨rfl, hb⟩
      have K0 := K0.below hb K0.lt
      have K1 := K1.below hb K1.lt
      have KN := KN.below hb KN.lt
      have HX : Hid (Below w.heap.size w x7) := HX.out.trans (hb.mono HX.out.size)
      clear hb hHeld
      go_wp2_with fail
      refine hK.out _ _ ⟨K0, K1⟩ (fun hHeld => ?_)
      clear hK K
      try simp only [Act.put, List.setIfInBounds_toArray, List.set_cons_zero, List.set_cons_succ]
      refine wpAnyH_take (i := 6) (oi := { dst := some 11, op := _, type := _, pos := _, after := _, guard := _ }) (v := .tuple #[.agg (mk 2 G), .bool O]) rfl (by kernel_rfl) (by kernel_rfl) (by kernel_rfl) (fun _ _ _ h => h) (Or.inl ⟨by rfl, by intro w hSw; clear hSw; go_simp; (try with_reducible rfl)⟩) (by assumption) ?_
      try simp only [Act.put, List.setIfInBounds_toArray, List.set_cons_zero, List.set_cons_succ]
      refine wpAnyH_take (i := 7) (oi := { dst := some 18, op := _, type := _, pos := _, after := _, guard := _ }) (v := .agg (mk 2 G)) rfl (by kernel_rfl) (by kernel_rfl) (by kernel_rfl) (fun _ _ _ h => h) (Or.inl ⟨by rfl, by intro w hSw; clear hSw; go_simp; (try with_reducible rfl)⟩) (by assumption) ?_
      try simp only [Act.put, List.setIfInBounds_toArray, List.set_cons_zero, List.set_cons_succ]
      refine wpAnyH_take (i := 8) (oi := { dst := some 19, op := _, type := _, pos := _, after := _, guard := _ }) (v := .bool O) rfl (by kernel_rfl) (by kernel_rfl) (by kernel_rfl) (fun _ _ _ h => h) (Or.inl ⟨by rfl, by intro w hSw; clear hSw; go_simp; (try with_reducible rfl)⟩) (by assumption) ?_
      try simp only [Act.put, List.setIfInBounds_toArray, List.set_cons_zero, List.set_cons_succ]
      refine wpAnyH_ready (rs := [10]) (by kernel_rfl) (by simp) ?_
      refine AllReadyH.cons rfl (fun K hK => ?_) AllReadyH.nil
      have st1 := run_store_blk (P := Try.prog) (g := G) KN
      have ms1 : (mk 2 G).size = 2 := mk_size 2 _
      go_simp
      clear st1 ms1 hHeld
      have K0 := K0.rowOther bN (mk 2 G) (by omega)
      have K1 := K1.rowOther bN (mk 2 G) (by omega)
      have HX : Hid (Below w.heap.size w (x7.setRow bN (mk 2 G))) := below_setRow HX.out (by omega) _
      have KN := KN.row 2 G
      generalize x7.setRow bN (mk 2 G) = xs8 at *
      refine hK.out _ _ ⟨K0, K1⟩ (fun hHeld => ?_)
      clear hK K
      try simp only [Act.put, List.setIfInBounds_toArray, List.set_cons_zero, List.set_cons_succ]
      refine wpAnyH_take (i := 11) (oi := { dst := some 8, op := _, type := _, pos := _, after := _, guard := _ }) (v := .bool O) rfl (by kernel_rfl) (by kernel_rfl) (by kernel_rfl) (fun _ _ _ h => h) (Or.inl ⟨by rfl, by intro w hSw; clear hSw; go_simp; (try with_reducible rfl)⟩) (by assumption) ?_
      try simp only [Act.put, List.setIfInBounds_toArray, List.set_cons_zero, List.set_cons_succ]
      refine wpAnyH_done (by kernel_rfl) ?_ _
      clear hHeld
      have KS := KN
      clear KN
      generalize hbS : bN = bS at *
      clear hbS
      go_wp2_with fail
      refine wp_region_held_drew (S := fun W => Blk W w.heap.size 16 a0 25 ∧ Blk W (w.heap.size + 1) 16 a2 25) (by kernel_rfl) (⟨K0.drew, K1.drew⟩) (fun hHeld => ?_)
      have K0 := K0.drew
      have K1 := K1.drew
      have KS := KS.drew
      have HX : Hid (Below w.heap.size w xs8.drew) := HX.out.drew
      clear hHeld
      generalize xs8.drew = yw at *
      have hHeld : Blk yw w.heap.size 16 a0 25 ∧ Blk yw (w.heap.size + 1) 16 a2 25 := ⟨K0, K1⟩
      refine wpAnyH_take (i := 0) (oi := { dst := some 21, op := _, type := _, pos := _, after := _, guard := _ }) (v := .agg (mk 16 a0)) rfl (by kernel_rfl) (by kernel_rfl) (by kernel_rfl) (fun _ _ _ h => h) (Or.inl ⟨by rfl, fun _ q => execK9 q.1 rfl rfl⟩) (by assumption) ?_
      try simp only [Act.put, List.setIfInBounds_toArray, List.set_cons_zero, List.set_cons_succ]
      refine wpAnyH_take (i := 2) (oi := { dst := some 23, op := _, type := _, pos := _, after := _, guard := _ }) (v := .int .i64 a1) rfl (by kernel_rfl) (by kernel_rfl) (by kernel_rfl) (fun _ _ _ h => h) (Or.inl ⟨by rfl, by intro w hSw; clear hSw; go_simp; (try with_reducible rfl)⟩) (by assumption) ?_
      try simp only [Act.put, List.setIfInBounds_toArray, List.set_cons_zero, List.set_cons_succ]
      refine wpAnyH_take (i := 3) (oi := { dst := some 24, op := _, type := _, pos := _, after := _, guard := _ }) (v := .agg (mk 16 a2)) rfl (by kernel_rfl) (by kernel_rfl) (by kernel_rfl) (fun _ _ _ h => h) (Or.inl ⟨by rfl, fun _ q => execK9 q.2 rfl rfl⟩) (by assumption) ?_
      try simp only [Act.put, List.setIfInBounds_toArray, List.set_cons_zero, List.set_cons_succ]
      refine wpAnyH_ready (rs := [1, 9]) (by kernel_rfl) (by simp) ?_
      refine AllReadyH.cons rfl (fun K hK => ?_) ?_
      · go_simp
        refine (toBoard_any a0 _).mono ?_
        rintro e y1 ⟨rfl, hb⟩
        have K0 := K0.below hb K0.lt
        have K1 := K1.below hb K1.lt
        have KS := KS.below hb KS.lt
        have HX : Hid (Below w.heap.size w y1) := HX.out.trans (hb.mono HX.out.size)
        clear hb hHeld
        go_wp2_with fail
        refine hK.out _ _ ⟨K0, K1⟩ (fun hHeld => ?_)
        clear hK K
        try simp only [Act.put, List.setIfInBounds_toArray, List.set_cons_zero, List.set_cons_succ]
        refine wpAnyH_ready (rs := [4, 9]) (by kernel_rfl) (by simp) ?_
        refine AllReadyH.cons rfl (fun K hK => ?_) ?_
        · go_simp
          refine (toBoard_any a2 _).mono ?_
          rintro e y2 ⟨rfl, hb⟩
          have K0 := K0.below hb K0.lt
          have K1 := K1.below hb K1.lt
          have KS := KS.below hb KS.lt
          have HX : Hid (Below w.heap.size w y2) := HX.out.trans (hb.mono HX.out.size)
          clear hb hHeld
          go_wp2_with fail
          refine hK.out _ _ ⟨K0, K1⟩ (fun hHeld => ?_)
          clear hK K
          try simp only [Act.put, List.setIfInBounds_toArray, List.set_cons_zero, List.set_cons_succ]
          refine wpAnyH_ready (rs := [5, 9]) (by kernel_rfl) (by simp) ?_
          refine AllReadyH.cons rfl (fun K hK => ?_) ?_
          · go_simp
            refine (IM.out _).mono ?_
            rintro e y3 ⟨rfl, hb⟩
            have K0 := K0.below hb K0.lt
            have K1 := K1.below hb K1.lt
            have KS := KS.below hb KS.lt
            have HX : Hid (Below w.heap.size w y3) := HX.out.trans (hb.mono HX.out.size)
            clear hb hHeld
            go_wp2_with fail
            refine hK.out _ _ ⟨K0, K1⟩ (fun hHeld => ?_)
            clear hK K
            try simp only [Act.put, List.setIfInBounds_toArray, List.set_cons_zero, List.set_cons_succ]
            refine wpAnyH_take (i := 6) (oi := { dst := some 20, op := _, type := _, pos := _, after := _, guard := _ }) (v := .tuple #[.agg (mk 2 G), .bool O]) rfl (by kernel_rfl) (by kernel_rfl) (by kernel_rfl) (fun _ _ _ h => h) (Or.inl ⟨by rfl, by intro w hSw; clear hSw; go_simp; (try with_reducible rfl)⟩) (by assumption) ?_
            try simp only [Act.put, List.setIfInBounds_toArray, List.set_cons_zero, List.set_cons_succ]
            refine wpAnyH_take (i := 7) (oi := { dst := some 27, op := _, type := _, pos := _, after := _, guard := _ }) (v := .agg (mk 2 G)) rfl (by kernel_rfl) (by kernel_rfl) (by kernel_rfl) (fun _ _ _ h => h) (Or.inl ⟨by rfl, by intro w hSw; clear hSw; go_simp; (try with_reducible rfl)⟩) (by assumption) ?_
            try simp only [Act.put, List.setIfInBounds_toArray, List.set_cons_zero, List.set_cons_succ]
            refine wpAnyH_take (i := 8) (oi := { dst := some 28, op := _, type := _, pos := _, after := _, guard := _ }) (v := .bool O) rfl (by kernel_rfl) (by kernel_rfl) (by kernel_rfl) (fun _ _ _ h => h) (Or.inl ⟨by rfl, by intro w hSw; clear hSw; go_simp; (try with_reducible rfl)⟩) (by assumption) ?_
            try simp only [Act.put, List.setIfInBounds_toArray, List.set_cons_zero, List.set_cons_succ]
            refine wpAnyH_ready (rs := [9]) (by kernel_rfl) (by simp) ?_
            refine AllReadyH.cons rfl (fun K hK => ?_) AllReadyH.nil
            go_simp
            clear hHeld
            have hlb : w.heap.size + 1 < y3.heap.size := K1.lt
            have hls : bS < y3.heap.size := KS.lt
            have KN := Blk.new y3 2 (fun _ => 0) 26
            have K0 := K0.alloc (.cells (mk 2 fun _ => 0) 26)
            have K1 := K1.alloc (.cells (mk 2 fun _ => 0) 26)
            have KS := KS.alloc (.cells (mk 2 fun _ => 0) 26)
            have HX : Hid (Below w.heap.size w (y3.alloc (.cells (mk 2 fun _ => 0) 26))) := HX.out.alloc HX.out.size _
            generalize y3.alloc (.cells (mk 2 fun _ => 0) 26) = yn4 at *
            generalize y3.heap.size = bN at *
            refine hK.out _ _ ⟨K0, K1⟩ (fun hHeld => ?_)
            clear hK K
            try simp only [Act.put, List.setIfInBounds_toArray, List.set_cons_zero, List.set_cons_succ]
            refine wpAnyH_ready (rs := [10]) (by kernel_rfl) (by simp) ?_
            refine AllReadyH.cons rfl (fun K hK => ?_) AllReadyH.nil
            have st1 := run_store_blk (P := Try.prog) (g := G) KN
            have ms1 : (mk 2 G).size = 2 := mk_size 2 _
            go_simp
            clear st1 ms1 hHeld
            have K0 := K0.rowOther bN (mk 2 G) (by omega)
            have K1 := K1.rowOther bN (mk 2 G) (by omega)
            have KS := KS.rowOther bN (mk 2 G) (by omega)
            have HX : Hid (Below w.heap.size w (yn4.setRow bN (mk 2 G))) := below_setRow HX.out (by omega) _
            have KN := KN.row 2 G
            generalize yn4.setRow bN (mk 2 G) = ys5 at *
            refine hK.out _ _ ⟨K0, K1⟩ (fun hHeld => ?_)
            clear hK K
            try simp only [Act.put, List.setIfInBounds_toArray, List.set_cons_zero, List.set_cons_succ]
            refine wpAnyH_take (i := 11) (oi := { dst := some 10, op := _, type := _, pos := _, after := _, guard := _ }) (v := .bool O) rfl (by kernel_rfl) (by kernel_rfl) (by kernel_rfl) (fun _ _ _ h => h) (Or.inl ⟨by rfl, by intro w hSw; clear hSw; go_simp; (try with_reducible rfl)⟩) (by assumption) ?_
            try simp only [Act.put, List.setIfInBounds_toArray, List.set_cons_zero, List.set_cons_succ]
            refine wpAnyH_done (by kernel_rfl) ?_ _
            clear hHeld
            go_wp2_with (first | ((with_reducible show wpList _ _ _ (Oper.mk _ (Op.load 26 _) _ _ _ _ :: _) _ _); refine loadC (KN) rfl rfl rfl ?_) | ((with_reducible show wpList _ _ _ (Oper.mk _ (Op.load 26 _) _ _ _ _ :: _) _ _); refine loadC (KS) rfl rfl rfl ?_))
            refine (eqIntA2_same _ _).mono ?_
            rintro e wz ⟨rfl, hb⟩
            have HX : Hid (Below w.heap.size w wz) := HX.out.trans (hb.mono HX.out.size)
            clear hb
            go_wp2_with fail
            go_ret
            exact ⟨rfl, HX.out⟩
          refine AllReadyH.cons rfl (fun K hK => ?_) AllReadyH.nil
          go_simp
          clear hHeld
          have hlb : w.heap.size + 1 < y2.heap.size := K1.lt
          have hls : bS < y2.heap.size := KS.lt
          have KN := Blk.new y2 2 (fun _ => 0) 26
          have K0 := K0.alloc (.cells (mk 2 fun _ => 0) 26)
          have K1 := K1.alloc (.cells (mk 2 fun _ => 0) 26)
          have KS := KS.alloc (.cells (mk 2 fun _ => 0) 26)
          have HX : Hid (Below w.heap.size w (y2.alloc (.cells (mk 2 fun _ => 0) 26))) := HX.out.alloc HX.out.size _
          generalize y2.alloc (.cells (mk 2 fun _ => 0) 26) = yn6 at *
          generalize y2.heap.size = bN at *
          refine hK.out _ _ ⟨K0, K1⟩ (fun hHeld => ?_)
          clear hK K
          try simp only [Act.put, List.setIfInBounds_toArray, List.set_cons_zero, List.set_cons_succ]
          refine wpAnyH_ready (rs := [5]) (by kernel_rfl) (by simp) ?_
          refine AllReadyH.cons rfl (fun K hK => ?_) AllReadyH.nil
          go_simp
          refine (IM.out _).mono ?_
          rintro e y7 ⟨rfl, hb⟩
          have K0 := K0.below hb K0.lt
          have K1 := K1.below hb K1.lt
          have KS := KS.below hb KS.lt
          have KN := KN.below hb KN.lt
          have HX : Hid (Below w.heap.size w y7) := HX.out.trans (hb.mono HX.out.size)
          clear hb hHeld
          go_wp2_with fail
          refine hK.out _ _ ⟨K0, K1⟩ (fun hHeld => ?_)
          clear hK K
          try simp only [Act.put, List.setIfInBounds_toArray, List.set_cons_zero, List.set_cons_succ]
          refine wpAnyH_take (i := 6) (oi := { dst := some 20, op := _, type := _, pos := _, after := _, guard := _ }) (v := .tuple #[.agg (mk 2 G), .bool O]) rfl (by kernel_rfl) (by kernel_rfl) (by kernel_rfl) (fun _ _ _ h => h) (Or.inl ⟨by rfl, by intro w hSw; clear hSw; go_simp; (try with_reducible rfl)⟩) (by assumption) ?_
          try simp only [Act.put, List.setIfInBounds_toArray, List.set_cons_zero, List.set_cons_succ]
          refine wpAnyH_take (i := 7) (oi := { dst := some 27, op := _, type := _, pos := _, after := _, guard := _ }) (v := .agg (mk 2 G)) rfl (by kernel_rfl) (by kernel_rfl) (by kernel_rfl) (fun _ _ _ h => h) (Or.inl ⟨by rfl, by intro w hSw; clear hSw; go_simp; (try with_reducible rfl)⟩) (by assumption) ?_
          try simp only [Act.put, List.setIfInBounds_toArray, List.set_cons_zero, List.set_cons_succ]
          refine wpAnyH_take (i := 8) (oi := { dst := some 28, op := _, type := _, pos := _, after := _, guard := _ }) (v := .bool O) rfl (by kernel_rfl) (by kernel_rfl) (by kernel_rfl) (fun _ _ _ h => h) (Or.inl ⟨by rfl, by intro w hSw; clear hSw; go_simp; (try with_reducible rfl)⟩) (by assumption) ?_
          try simp only [Act.put, List.setIfInBounds_toArray, List.set_cons_zero, List.set_cons_succ]
          refine wpAnyH_ready (rs := [10]) (by kernel_rfl) (by simp) ?_
          refine AllReadyH.cons rfl (fun K hK => ?_) AllReadyH.nil
          have st1 := run_store_blk (P := Try.prog) (g := G) KN
          have ms1 : (mk 2 G).size = 2 := mk_size 2 _
          go_simp
          clear st1 ms1 hHeld
          have K0 := K0.rowOther bN (mk 2 G) (by omega)
          have K1 := K1.rowOther bN (mk 2 G) (by omega)
          have KS := KS.rowOther bN (mk 2 G) (by omega)
          have HX : Hid (Below w.heap.size w (y7.setRow bN (mk 2 G))) := below_setRow HX.out (by omega) _
          have KN := KN.row 2 G
          generalize y7.setRow bN (mk 2 G) = ys8 at *
          refine hK.out _ _ ⟨K0, K1⟩ (fun hHeld => ?_)
          clear hK K
          try simp only [Act.put, List.setIfInBounds_toArray, List.set_cons_zero, List.set_cons_succ]
          refine wpAnyH_take (i := 11) (oi := { dst := some 10, op := _, type := _, pos := _, after := _, guard := _ }) (v := .bool O) rfl (by kernel_rfl) (by kernel_rfl) (by kernel_rfl) (fun _ _ _ h => h) (Or.inl ⟨by rfl, by intro w hSw; clear hSw; go_simp; (try with_reducible rfl)⟩) (by assumption) ?_
          try simp only [Act.put, List.setIfInBounds_toArray, List.set_cons_zero, List.set_cons_succ]
          refine wpAnyH_done (by kernel_rfl) ?_ _
          clear hHeld
          go_wp2_with (first | ((with_reducible show wpList _ _ _ (Oper.mk _ (Op.load 26 _) _ _ _ _ :: _) _ _); refine loadC (KN) rfl rfl rfl ?_) | ((with_reducible show wpList _ _ _ (Oper.mk _ (Op.load 26 _) _ _ _ _ :: _) _ _); refine loadC (KS) rfl rfl rfl ?_))
          refine (eqIntA2_same _ _).mono ?_
          rintro e wz ⟨rfl, hb⟩
          have HX : Hid (Below w.heap.size w wz) := HX.out.trans (hb.mono HX.out.size)
          clear hb
          go_wp2_with fail
          go_ret
          exact ⟨rfl, HX.out⟩
        refine AllReadyH.cons rfl (fun K hK => ?_) AllReadyH.nil
        go_simp
        clear hHeld
        have hlb : w.heap.size + 1 < y1.heap.size := K1.lt
        have hls : bS < y1.heap.size := KS.lt
        have KN := Blk.new y1 2 (fun _ => 0) 26
        have K0 := K0.alloc (.cells (mk 2 fun _ => 0) 26)
        have K1 := K1.alloc (.cells (mk 2 fun _ => 0) 26)
        have KS := KS.alloc (.cells (mk 2 fun _ => 0) 26)
        have HX : Hid (Below w.heap.size w (y1.alloc (.cells (mk 2 fun _ => 0) 26))) := HX.out.alloc HX.out.size _
        generalize y1.alloc (.cells (mk 2 fun _ => 0) 26) = yn9 at *
        generalize y1.heap.size = bN at *
        refine hK.out _ _ ⟨K0, K1⟩ (fun hHeld => ?_)
        clear hK K
        try simp only [Act.put, List.setIfInBounds_toArray, List.set_cons_zero, List.set_cons_succ]
        refine wpAnyH_ready (rs := [4]) (by kernel_rfl) (by simp) ?_
        refine AllReadyH.cons rfl (fun K hK => ?_) AllReadyH.nil
        go_simp
        refine (toBoard_any a2 _).mono ?_
        rintro e y10 ⟨rfl, hb⟩
        have K0 := K0.below hb K0.lt
        have K1 := K1.below hb K1.lt
        have KS := KS.below hb KS.lt
        have KN := KN.below hb KN.lt
        have HX : Hid (Below w.heap.size w y10) := HX.out.trans (hb.mono HX.out.size)
        clear hb hHeld
        go_wp2_with fail
        refine hK.out _ _ ⟨K0, K1⟩ (fun hHeld => ?_)
        clear hK K
        try simp only [Act.put, List.setIfInBounds_toArray, List.set_cons_zero, List.set_cons_succ]
        refine wpAnyH_ready (rs := [5]) (by kernel_rfl) (by simp) ?_
        refine AllReadyH.cons rfl (fun K hK => ?_) AllReadyH.nil
        go_simp
        refine (IM.out _).mono ?_
        rintro e y11 ⟨rfl, hb⟩
        have K0 := K0.below hb K0.lt
        have K1 := K1.below hb K1.lt
        have KS := KS.below hb KS.lt
        have KN := KN.below hb KN.lt
        have HX : Hid (Below w.heap.size w y11) := HX.out.trans (hb.mono HX.out.size)
        clear hb hHeld
        go_wp2_with fail
        refine hK.out _ _ ⟨K0, K1⟩ (fun hHeld => ?_)
        clear hK K
        try simp only [Act.put, List.setIfInBounds_toArray, List.set_cons_zero, List.set_cons_succ]
        refine wpAnyH_take (i := 6) (oi := { dst := some 20, op := _, type := _, pos := _, after := _, guard := _ }) (v := .tuple #[.agg (mk 2 G), .bool O]) rfl (by kernel_rfl) (by kernel_rfl) (by kernel_rfl) (fun _ _ _ h => h) (Or.inl ⟨by rfl, by intro w hSw; clear hSw; go_simp; (try with_reducible rfl)⟩) (by assumption) ?_
        try simp only [Act.put, List.setIfInBounds_toArray, List.set_cons_zero, List.set_cons_succ]
        refine wpAnyH_take (i := 7) (oi := { dst := some 27, op := _, type := _, pos := _, after := _, guard := _ }) (v := .agg (mk 2 G)) rfl (by kernel_rfl) (by kernel_rfl) (by kernel_rfl) (fun _ _ _ h => h) (Or.inl ⟨by rfl, by intro w hSw; clear hSw; go_simp; (try with_reducible rfl)⟩) (by assumption) ?_
        try simp only [Act.put, List.setIfInBounds_toArray, List.set_cons_zero, List.set_cons_succ]
        refine wpAnyH_take (i := 8) (oi := { dst := some 28, op := _, type := _, pos := _, after := _, guard := _ }) (v := .bool O) rfl (by kernel_rfl) (by kernel_rfl) (by kernel_rfl) (fun _ _ _ h => h) (Or.inl ⟨by rfl, by intro w hSw; clear hSw; go_simp; (try with_reducible rfl)⟩) (by assumption) ?_
        try simp only [Act.put, List.setIfInBounds_toArray, List.set_cons_zero, List.set_cons_succ]
        refine wpAnyH_ready (rs := [10]) (by kernel_rfl) (by simp) ?_
        refine AllReadyH.cons rfl (fun K hK => ?_) AllReadyH.nil
        have st1 := run_store_blk (P := Try.prog) (g := G) KN
        have ms1 : (mk 2 G).size = 2 := mk_size 2 _
        go_simp
        clear st1 ms1 hHeld
        have K0 := K0.rowOther bN (mk 2 G) (by omega)
        have K1 := K1.rowOther bN (mk 2 G) (by omega)
        have KS := KS.rowOther bN (mk 2 G) (by omega)
        have HX : Hid (Below w.heap.size w (y11.setRow bN (mk 2 G))) := below_setRow HX.out (by omega) _
        have KN := KN.row 2 G
        generalize y11.setRow bN (mk 2 G) = ys12 at *
        refine hK.out _ _ ⟨K0, K1⟩ (fun hHeld => ?_)
        clear hK K
        try simp only [Act.put, List.setIfInBounds_toArray, List.set_cons_zero, List.set_cons_succ]
        refine wpAnyH_take (i := 11) (oi := { dst := some 10, op := _, type := _, pos := _, after := _, guard := _ }) (v := .bool O) rfl (by kernel_rfl) (by kernel_rfl) (by kernel_rfl) (fun _ _ _ h => h) (Or.inl ⟨by rfl, by intro w hSw; clear hSw; go_simp; (try with_reducible rfl)⟩) (by assumption) ?_
        try simp only [Act.put, List.setIfInBounds_toArray, List.set_cons_zero, List.set_cons_succ]
        refine wpAnyH_done (by kernel_rfl) ?_ _
        clear hHeld
        go_wp2_with (first | ((with_reducible show wpList _ _ _ (Oper.mk _ (Op.load 26 _) _ _ _ _ :: _) _ _); refine loadC (KN) rfl rfl rfl ?_) | ((with_reducible show wpList _ _ _ (Oper.mk _ (Op.load 26 _) _ _ _ _ :: _) _ _); refine loadC (KS) rfl rfl rfl ?_))
        refine (eqIntA2_same _ _).mono ?_
        rintro e wz ⟨rfl, hb⟩
        have HX : Hid (Below w.heap.size w wz) := HX.out.trans (hb.mono HX.out.size)
        clear hb
        go_wp2_with fail
        go_ret
        exact ⟨rfl, HX.out⟩
      refine AllReadyH.cons rfl (fun K hK => ?_) AllReadyH.nil
      go_simp
      clear hHeld
      have hlb : w.heap.size + 1 < yw.heap.size := K1.lt
      have hls : bS < yw.heap.size := KS.lt
      have KN := Blk.new yw 2 (fun _ => 0) 26
      have K0 := K0.alloc (.cells (mk 2 fun _ => 0) 26)
      have K1 := K1.alloc (.cells (mk 2 fun _ => 0) 26)
      have KS := KS.alloc (.cells (mk 2 fun _ => 0) 26)
      have HX : Hid (Below w.heap.size w (yw.alloc (.cells (mk 2 fun _ => 0) 26))) := HX.out.alloc HX.out.size _
      generalize yw.alloc (.cells (mk 2 fun _ => 0) 26) = yn13 at *
      generalize yw.heap.size = bN at *
      refine hK.out _ _ ⟨K0, K1⟩ (fun hHeld => ?_)
      clear hK K
      try simp only [Act.put, List.setIfInBounds_toArray, List.set_cons_zero, List.set_cons_succ]
      refine wpAnyH_ready (rs := [1]) (by kernel_rfl) (by simp) ?_
      refine AllReadyH.cons rfl (fun K hK => ?_) AllReadyH.nil
      go_simp
      refine (toBoard_any a0 _).mono ?_
      rintro e y14 ⟨rfl, hb⟩
      have K0 := K0.below hb K0.lt
      have K1 := K1.below hb K1.lt
      have KS := KS.below hb KS.lt
      have KN := KN.below hb KN.lt
      have HX : Hid (Below w.heap.size w y14) := HX.out.trans (hb.mono HX.out.size)
      clear hb hHeld
      go_wp2_with fail
      refine hK.out _ _ ⟨K0, K1⟩ (fun hHeld => ?_)
      clear hK K
      try simp only [Act.put, List.setIfInBounds_toArray, List.set_cons_zero, List.set_cons_succ]
      refine wpAnyH_ready (rs := [4]) (by kernel_rfl) (by simp) ?_
      refine AllReadyH.cons rfl (fun K hK => ?_) AllReadyH.nil
      go_simp
      refine (toBoard_any a2 _).mono ?_
      rintro e y15 ⟨rfl, hb⟩
      have K0 := K0.below hb K0.lt
      have K1 := K1.below hb K1.lt
      have KS := KS.below hb KS.lt
      have KN := KN.below hb KN.lt
      have HX : Hid (Below w.heap.size w y15) := HX.out.trans (hb.mono HX.out.size)
      clear hb hHeld
      go_wp2_with fail
      refine hK.out _ _ ⟨K0, K1⟩ (fun hHeld => ?_)
      clear hK K
      try simp only [Act.put, List.setIfInBounds_toArray, List.set_cons_zero, List.set_cons_succ]
      refine wpAnyH_ready (rs := [5]) (by kernel_rfl) (by simp) ?_
      refine AllReadyH.cons rfl (fun K hK => ?_) AllReadyH.nil
      go_simp
      refine (IM.out _).mono ?_
      rintro e y16 ⟨rfl, hb⟩
      have K0 := K0.below hb K0.lt
      have K1 := K1.below hb K1.lt
      have KS := KS.below hb KS.lt
      have KN := KN.below hb KN.lt
      have HX : Hid (Below w.heap.size w y16) := HX.out.trans (hb.mono HX.out.size)
      clear hb hHeld
      go_wp2_with fail
      refine hK.out _ _ ⟨K0, K1⟩ (fun hHeld => ?_)
      clear hK K
      try simp only [Act.put, List.setIfInBounds_toArray, List.set_cons_zero, List.set_cons_succ]
      refine wpAnyH_take (i := 6) (oi := { dst := some 20, op := _, type := _, pos := _, after := _, guard := _ }) (v := .tuple #[.agg (mk 2 G), .bool O]) rfl (by kernel_rfl) (by kernel_rfl) (by kernel_rfl) (fun _ _ _ h => h) (Or.inl ⟨by rfl, by intro w hSw; clear hSw; go_simp; (try with_reducible rfl)⟩) (by assumption) ?_
      try simp only [Act.put, List.setIfInBounds_toArray, List.set_cons_zero, List.set_cons_succ]
      refine wpAnyH_take (i := 7) (oi := { dst := some 27, op := _, type := _, pos := _, after := _, guard := _ }) (v := .agg (mk 2 G)) rfl (by kernel_rfl) (by kernel_rfl) (by kernel_rfl) (fun _ _ _ h => h) (Or.inl ⟨by rfl, by intro w hSw; clear hSw; go_simp; (try with_reducible rfl)⟩) (by assumption) ?_
      try simp only [Act.put, List.setIfInBounds_toArray, List.set_cons_zero, List.set_cons_succ]
      refine wpAnyH_take (i := 8) (oi := { dst := some 28, op := _, type := _, pos := _, after := _, guard := _ }) (v := .bool O) rfl (by kernel_rfl) (by kernel_rfl) (by kernel_rfl) (fun _ _ _ h => h) (Or.inl ⟨by rfl, by intro w hSw; clear hSw; go_simp; (try with_reducible rfl)⟩) (by assumption) ?_
      try simp only [Act.put, List.setIfInBounds_toArray, List.set_cons_zero, List.set_cons_succ]
      refine wpAnyH_ready (rs := [10]) (by kernel_rfl) (by simp) ?_
      refine AllReadyH.cons rfl (fun K hK => ?_) AllReadyH.nil
      have st1 := run_store_blk (P := Try.prog) (g := G) KN
      have ms1 : (mk 2 G).size = 2 := mk_size 2 _
      go_simp
      clear st1 ms1 hHeld
      have K0 := K0.rowOther bN (mk 2 G) (by omega)
      have K1 := K1.rowOther bN (mk 2 G) (by omega)
      have KS := KS.rowOther bN (mk 2 G) (by omega)
      have HX : Hid (Below w.heap.size w (y16.setRow bN (mk 2 G))) := below_setRow HX.out (by omega) _
      have KN := KN.row 2 G
      generalize y16.setRow bN (mk 2 G) = ys17 at *
      refine hK.out _ _ ⟨K0, K1⟩ (fun hHeld => ?_)
      clear hK K
      try simp only [Act.put, List.setIfInBounds_toArray, List.set_cons_zero, List.set_cons_succ]
      refine wpAnyH_take (i := 11) (oi := { dst := some 10, op := _, type := _, pos := _, after := _, guard := _ }) (v := .bool O) rfl (by kernel_rfl) (by kernel_rfl) (by kernel_rfl) (fun _ _ _ h => h) (Or.inl ⟨by rfl, by intro w hSw; clear hSw; go_simp; (try with_reducible rfl)⟩) (by assumption) ?_
      try simp only [Act.put, List.setIfInBounds_toArray, List.set_cons_zero, List.set_cons_succ]
      refine wpAnyH_done (by kernel_rfl) ?_ _
      clear hHeld
      go_wp2_with (first | ((with_reducible show wpList _ _ _ (Oper.mk _ (Op.load 26 _) _ _ _ _ :: _) _ _); refine loadC (KN) rfl rfl rfl ?_) | ((with_reducible show wpList _ _ _ (Oper.mk _ (Op.load 26 _) _ _ _ _ :: _) _ _); refine loadC (KS) rfl rfl rfl ?_))
      refine (eqIntA2_same _ _).mono ?_
      rintro e wz ⟨rfl, hb⟩
      have HX : Hid (Below w.heap.size w wz) := HX.out.trans (hb.mono HX.out.size)
      clear hb
      go_wp2_with fail
      go_ret
      exact ⟨rfl, HX.out⟩
    refine AllReadyH.cons rfl (fun K hK => ?_) AllReadyH.nil
    go_simp
    clear hHeld
    have hlb : w.heap.size + 1 < x1.heap.size := K1.lt
    have KN := Blk.new x1 2 (fun _ => 0) 26
    have K0 := K0.alloc (.cells (mk 2 fun _ => 0) 26)
    have K1 := K1.alloc (.cells (mk 2 fun _ => 0) 26)
    have HX : Hid (Below w.heap.size w (x1.alloc (.cells (mk 2 fun _ => 0) 26))) := HX.out.alloc HX.out.size _
    generalize x1.alloc (.cells (mk 2 fun _ => 0) 26) = xn9 at *
    generalize x1.heap.size = bN at *
    refine hK.out _ _ ⟨K0, K1⟩ (fun hHeld => ?_)
    clear hK K
    try simp only [Act.put, List.setIfInBounds_toArray, List.set_cons_zero, List.set_cons_succ]
    refine wpAnyH_ready (rs := [4]) (by kernel_rfl) (by simp) ?_
    refine AllReadyH.cons rfl (fun K hK => ?_) AllReadyH.nil
    go_simp
    refine (toBoard_any a2 _).mono ?_
    rintro e x10 ⟨rfl, hb⟩
    have K0 := K0.below hb K0.lt
    have K1 := K1.below hb K1.lt
    have KN := KN.below hb KN.lt
    have HX : Hid (Below w.heap.size w x10) := HX.out.trans (hb.mono HX.out.size)
    clear hb hHeld
    go_wp2_with fail
    refine hK.out _ _ ⟨K0, K1⟩ (fun hHeld => ?_)
    clear hK K
    try simp only [Act.put, List.setIfInBounds_toArray, List.set_cons_zero, List.set_cons_succ]
    refine wpAnyH_ready (rs := [5]) (by kernel_rfl) (by simp) ?_
    refine AllReadyH.cons rfl (fun K hK => ?_) AllReadyH.nil
    go_simp
    refine (SP.out _).mono ?_
    rintro e x11 ⟨rfl, hb⟩
    have K0 := K0.below hb K0.lt
    have K1 := K1.below hb K1.lt
    have KN := KN.below hb KN.lt
    have HX : Hid (Below w.heap.size w x11) := HX.out.trans (hb.mono HX.out.size)
    clear hb hHeld
    go_wp2_with fail
    refine hK.out _ _ ⟨K0, K1⟩ (fun hHeld => ?_)
    clear hK K
    try simp only [Act.put, List.setIfInBounds_toArray, List.set_cons_zero, List.set_cons_succ]
    refine wpAnyH_take (i := 6) (oi := { dst := some 11, op := _, type := _, pos := _, after := _, guard := _ }) (v := .tuple #[.agg (mk 2 G), .bool O]) rfl (by kernel_rfl) (by kernel_rfl) (by kernel_rfl) (fun _ _ _ h => h) (Or.inl ⟨by rfl, by intro w hSw; clear hSw; go_simp; (try with_reducible rfl)⟩) (by assumption) ?_
    try simp only [Act.put, List.setIfInBounds_toArray, List.set_cons_zero, List.set_cons_succ]
    refine wpAnyH_take (i := 7) (oi := { dst := some 18, op := _, type := _, pos := _, after := _, guard := _ }) (v := .agg (mk 2 G)) rfl (by kernel_rfl) (by kernel_rfl) (by kernel_rfl) (fun _ _ _ h => h) (Or.inl ⟨by rfl, by intro w hSw; clear hSw; go_simp; (try with_reducible rfl)⟩) (by assumption) ?_
    try simp only [Act.put, List.setIfInBounds_toArray, List.set_cons_zero, List.set_cons_succ]
    refine wpAnyH_take (i := 8) (oi := { dst := some 19, op := _, type := _, pos := _, after := _, guard := _ }) (v := .bool O) rfl (by kernel_rfl) (by kernel_rfl) (by kernel_rfl) (fun _ _ _ h => h) (Or.inl ⟨by rfl, by intro w hSw; clear hSw; go_simp; (try with_reducible rfl)⟩) (by assumption) ?_
    try simp only [Act.put, List.setIfInBounds_toArray, List.set_cons_zero, List.set_cons_succ]
    refine wpAnyH_ready (rs := [10]) (by kernel_rfl) (by simp) ?_
    refine AllReadyH.cons rfl (fun K hK => ?_) AllReadyH.nil
    have st1 := run_store_blk (P := Try.prog) (g := G) KN
    have ms1 : (mk 2 G).size = 2 := mk_size 2 _
    go_simp
    clear st1 ms1 hHeld
    have K0 := K0.rowOther bN (mk 2 G) (by omega)
    have K1 := K1.rowOther bN (mk 2 G) (by omega)
    have HX : Hid (Below w.heap.size w (x11.setRow bN (mk 2 G))) := below_setRow HX.out (by omega) _
    have KN := KN.row 2 G
    generalize x11.setRow bN (mk 2 G) = xs12 at *
    refine hK.out _ _ ⟨K0, K1⟩ (fun hHeld => ?_)
    clear hK K
    try simp only [Act.put, List.setIfInBounds_toArray, List.set_cons_zero, List.set_cons_succ]
    refine wpAnyH_take (i := 11) (oi := { dst := some 8, op := _, type := _, pos := _, after := _, guard := _ }) (v := .bool O) rfl (by kernel_rfl) (by kernel_rfl) (by kernel_rfl) (fun _ _ _ h => h) (Or.inl ⟨by rfl, by intro w hSw; clear hSw; go_simp; (try with_reducible rfl)⟩) (by assumption) ?_
    try simp only [Act.put, List.setIfInBounds_toArray, List.set_cons_zero, List.set_cons_succ]
    refine wpAnyH_done (by kernel_rfl) ?_ _
    clear hHeld
    have KS := KN
    clear KN
    generalize hbS : bN = bS at *
    clear hbS
    go_wp2_with fail
    refine wp_region_held_drew (S := fun W => Blk W w.heap.size 16 a0 25 ∧ Blk W (w.heap.size + 1) 16 a2 25) (by kernel_rfl) (⟨K0.drew, K1.drew⟩) (fun hHeld => ?_)
    have K0 := K0.drew
    have K1 := K1.drew
    have KS := KS.drew
    have HX : Hid (Below w.heap.size w xs12.drew) := HX.out.drew
    clear hHeld
    generalize xs12.drew = yw at *
    have hHeld : Blk yw w.heap.size 16 a0 25 ∧ Blk yw (w.heap.size + 1) 16 a2 25 := ⟨K0, K1⟩
    refine wpAnyH_take (i := 0) (oi := { dst := some 21, op := _, type := _, pos := _, after := _, guard := _ }) (v := .agg (mk 16 a0)) rfl (by kernel_rfl) (by kernel_rfl) (by kernel_rfl) (fun _ _ _ h => h) (Or.inl ⟨by rfl, fun _ q => execK9 q.1 rfl rfl⟩) (by assumption) ?_
    try simp only [Act.put, List.setIfInBounds_toArray, List.set_cons_zero, List.set_cons_succ]
    refine wpAnyH_take (i := 2) (oi := { dst := some 23, op := _, type := _, pos := _, after := _, guard := _ }) (v := .int .i64 a1) rfl (by kernel_rfl) (by kernel_rfl) (by kernel_rfl) (fun _ _ _ h => h) (Or.inl ⟨by rfl, by intro w hSw; clear hSw; go_simp; (try with_reducible rfl)⟩) (by assumption) ?_
    try simp only [Act.put, List.setIfInBounds_toArray, List.set_cons_zero, List.set_cons_succ]
    refine wpAnyH_take (i := 3) (oi := { dst := some 24, op := _, type := _, pos := _, after := _, guard := _ }) (v := .agg (mk 16 a2)) rfl (by kernel_rfl) (by kernel_rfl) (by kernel_rfl) (fun _ _ _ h => h) (Or.inl ⟨by rfl, fun _ q => execK9 q.2 rfl rfl⟩) (by assumption) ?_
    try simp only [Act.put, List.setIfInBounds_toArray, List.set_cons_zero, List.set_cons_succ]
    refine wpAnyH_ready (rs := [1, 9]) (by kernel_rfl) (by simp) ?_
    refine AllReadyH.cons rfl (fun K hK => ?_) ?_
    · go_simp
      refine (toBoard_any a0 _).mono ?_
      rintro e y1 ⟨rfl, hb⟩
      have K0 := K0.below hb K0.lt
      have K1 := K1.below hb K1.lt
      have KS := KS.below hb KS.lt
      have HX : Hid (Below w.heap.size w y1) := HX.out.trans (hb.mono HX.out.size)
      clear hb hHeld
      go_wp2_with fail
      refine hK.out _ _ ⟨K0, K1⟩ (fun hHeld => ?_)
      clear hK K
      try simp only [Act.put, List.setIfInBounds_toArray, List.set_cons_zero, List.set_cons_succ]
      refine wpAnyH_ready (rs := [4, 9]) (by kernel_rfl) (by simp) ?_
      refine AllReadyH.cons rfl (fun K hK => ?_) ?_
      · go_simp
        refine (toBoard_any a2 _).mono ?_
        rintro e y2 ⟨rfl, hb⟩
        have K0 := K0.below hb K0.lt
        have K1 := K1.below hb K1.lt
        have KS := KS.below hb KS.lt
        have HX : Hid (Below w.heap.size w y2) := HX.out.trans (hb.mono HX.out.size)
        clear hb hHeld
        go_wp2_with fail
        refine hK.out _ _ ⟨K0, K1⟩ (fun hHeld => ?_)
        clear hK K
        try simp only [Act.put, List.setIfInBounds_toArray, List.set_cons_zero, List.set_cons_succ]
        refine wpAnyH_ready (rs := [5, 9]) (by kernel_rfl) (by simp) ?_
        refine AllReadyH.cons rfl (fun K hK => ?_) ?_
        · go_simp
          refine (IM.out _).mono ?_
          rintro e y3 ⟨rfl, hb⟩
          have K0 := K0.below hb K0.lt
          have K1 := K1.below hb K1.lt
          have KS := KS.below hb KS.lt
          have HX : Hid (Below w.heap.size w y3) := HX.out.trans (hb.mono HX.out.size)
          clear hb hHeld
          go_wp2_with fail
          refine hK.out _ _ ⟨K0, K1⟩ (fun hHeld => ?_)
          clear hK K
          try simp only [Act.put, List.setIfInBounds_toArray, List.set_cons_zero, List.set_cons_succ]
          refine wpAnyH_take (i := 6) (oi := { dst := some 20, op := _, type := _, pos := _, after := _, guard := _ }) (v := .tuple #[.agg (mk 2 G), .bool O]) rfl (by kernel_rfl) (by kernel_rfl) (by kernel_rfl) (fun _ _ _ h => h) (Or.inl ⟨by rfl, by intro w hSw; clear hSw; go_simp; (try with_reducible rfl)⟩) (by assumption) ?_
          try simp only [Act.put, List.setIfInBounds_toArray, List.set_cons_zero, List.set_cons_succ]
          refine wpAnyH_take (i := 7) (oi := { dst := some 27, op := _, type := _, pos := _, after := _, guard := _ }) (v := .agg (mk 2 G)) rfl (by kernel_rfl) (by kernel_rfl) (by kernel_rfl) (fun _ _ _ h => h) (Or.inl ⟨by rfl, by intro w hSw; clear hSw; go_simp; (try with_reducible rfl)⟩) (by assumption) ?_
          try simp only [Act.put, List.setIfInBounds_toArray, List.set_cons_zero, List.set_cons_succ]
          refine wpAnyH_take (i := 8) (oi := { dst := some 28, op := _, type := _, pos := _, after := _, guard := _ }) (v := .bool O) rfl (by kernel_rfl) (by kernel_rfl) (by kernel_rfl) (fun _ _ _ h => h) (Or.inl ⟨by rfl, by intro w hSw; clear hSw; go_simp; (try with_reducible rfl)⟩) (by assumption) ?_
          try simp only [Act.put, List.setIfInBounds_toArray, List.set_cons_zero, List.set_cons_succ]
          refine wpAnyH_ready (rs := [9]) (by kernel_rfl) (by simp) ?_
          refine AllReadyH.cons rfl (fun K hK => ?_) AllReadyH.nil
          go_simp
          clear hHeld
          have hlb : w.heap.size + 1 < y3.heap.size := K1.lt
          have hls : bS < y3.heap.size := KS.lt
          have KN := Blk.new y3 2 (fun _ => 0) 26
          have K0 := K0.alloc (.cells (mk 2 fun _ => 0) 26)
          have K1 := K1.alloc (.cells (mk 2 fun _ => 0) 26)
          have KS := KS.alloc (.cells (mk 2 fun _ => 0) 26)
          have HX : Hid (Below w.heap.size w (y3.alloc (.cells (mk 2 fun _ => 0) 26))) := HX.out.alloc HX.out.size _
          generalize y3.alloc (.cells (mk 2 fun _ => 0) 26) = yn4 at *
          generalize y3.heap.size = bN at *
          refine hK.out _ _ ⟨K0, K1⟩ (fun hHeld => ?_)
          clear hK K
          try simp only [Act.put, List.setIfInBounds_toArray, List.set_cons_zero, List.set_cons_succ]
          refine wpAnyH_ready (rs := [10]) (by kernel_rfl) (by simp) ?_
          refine AllReadyH.cons rfl (fun K hK => ?_) AllReadyH.nil
          have st1 := run_store_blk (P := Try.prog) (g := G) KN
          have ms1 : (mk 2 G).size = 2 := mk_size 2 _
          go_simp
          clear st1 ms1 hHeld
          have K0 := K0.rowOther bN (mk 2 G) (by omega)
          have K1 := K1.rowOther bN (mk 2 G) (by omega)
          have KS := KS.rowOther bN (mk 2 G) (by omega)
          have HX : Hid (Below w.heap.size w (yn4.setRow bN (mk 2 G))) := below_setRow HX.out (by omega) _
          have KN := KN.row 2 G
          generalize yn4.setRow bN (mk 2 G) = ys5 at *
          refine hK.out _ _ ⟨K0, K1⟩ (fun hHeld => ?_)
          clear hK K
          try simp only [Act.put, List.setIfInBounds_toArray, List.set_cons_zero, List.set_cons_succ]
          refine wpAnyH_take (i := 11) (oi := { dst := some 10, op := _, type := _, pos := _, after := _, guard := _ }) (v := .bool O) rfl (by kernel_rfl) (by kernel_rfl) (by kernel_rfl) (fun _ _ _ h => h) (Or.inl ⟨by rfl, by intro w hSw; clear hSw; go_simp; (try with_reducible rfl)⟩) (by assumption) ?_
          try simp only [Act.put, List.setIfInBounds_toArray, List.set_cons_zero, List.set_cons_succ]
          refine wpAnyH_done (by kernel_rfl) ?_ _
          clear hHeld
          go_wp2_with (first | ((with_reducible show wpList _ _ _ (Oper.mk _ (Op.load 26 _) _ _ _ _ :: _) _ _); refine loadC (KN) rfl rfl rfl ?_) | ((with_reducible show wpList _ _ _ (Oper.mk _ (Op.load 26 _) _ _ _ _ :: _) _ _); refine loadC (KS) rfl rfl rfl ?_))
          refine (eqIntA2_same _ _).mono ?_
          rintro e wz ⟨rfl, hb⟩
          have HX : Hid (Below w.heap.size w wz) := HX.out.trans (hb.mono HX.out.size)
          clear hb
          go_wp2_with fail
          go_ret
          exact ⟨rfl, HX.out⟩
        refine AllReadyH.cons rfl (fun K hK => ?_) AllReadyH.nil
        go_simp
        clear hHeld
        have hlb : w.heap.size + 1 < y2.heap.size := K1.lt
        have hls : bS < y2.heap.size := KS.lt
        have KN := Blk.new y2 2 (fun _ => 0) 26
        have K0 := K0.alloc (.cells (mk 2 fun _ => 0) 26)
        have K1 := K1.alloc (.cells (mk 2 fun _ => 0) 26)
        have KS := KS.alloc (.cells (mk 2 fun _ => 0) 26)
        have HX : Hid (Below w.heap.size w (y2.alloc (.cells (mk 2 fun _ => 0) 26))) := HX.out.alloc HX.out.size _
        generalize y2.alloc (.cells (mk 2 fun _ => 0) 26) = yn6 at *
        generalize y2.heap.size = bN at *
        refine hK.out _ _ ⟨K0, K1⟩ (fun hHeld => ?_)
        clear hK K
        try simp only [Act.put, List.setIfInBounds_toArray, List.set_cons_zero, List.set_cons_succ]
        refine wpAnyH_ready (rs := [5]) (by kernel_rfl) (by simp) ?_
        refine AllReadyH.cons rfl (fun K hK => ?_) AllReadyH.nil
        go_simp
        refine (IM.out _).mono ?_
        rintro e y7 ⟨rfl, hb⟩
        have K0 := K0.below hb K0.lt
        have K1 := K1.below hb K1.lt
        have KS := KS.below hb KS.lt
        have KN := KN.below hb KN.lt
        have HX : Hid (Below w.heap.size w y7) := HX.out.trans (hb.mono HX.out.size)
        clear hb hHeld
        go_wp2_with fail
        refine hK.out _ _ ⟨K0, K1⟩ (fun hHeld => ?_)
        clear hK K
        try simp only [Act.put, List.setIfInBounds_toArray, List.set_cons_zero, List.set_cons_succ]
        refine wpAnyH_take (i := 6) (oi := { dst := some 20, op := _, type := _, pos := _, after := _, guard := _ }) (v := .tuple #[.agg (mk 2 G), .bool O]) rfl (by kernel_rfl) (by kernel_rfl) (by kernel_rfl) (fun _ _ _ h => h) (Or.inl ⟨by rfl, by intro w hSw; clear hSw; go_simp; (try with_reducible rfl)⟩) (by assumption) ?_
        try simp only [Act.put, List.setIfInBounds_toArray, List.set_cons_zero, List.set_cons_succ]
        refine wpAnyH_take (i := 7) (oi := { dst := some 27, op := _, type := _, pos := _, after := _, guard := _ }) (v := .agg (mk 2 G)) rfl (by kernel_rfl) (by kernel_rfl) (by kernel_rfl) (fun _ _ _ h => h) (Or.inl ⟨by rfl, by intro w hSw; clear hSw; go_simp; (try with_reducible rfl)⟩) (by assumption) ?_
        try simp only [Act.put, List.setIfInBounds_toArray, List.set_cons_zero, List.set_cons_succ]
        refine wpAnyH_take (i := 8) (oi := { dst := some 28, op := _, type := _, pos := _, after := _, guard := _ }) (v := .bool O) rfl (by kernel_rfl) (by kernel_rfl) (by kernel_rfl) (fun _ _ _ h => h) (Or.inl ⟨by rfl, by intro w hSw; clear hSw; go_simp; (try with_reducible rfl)⟩) (by assumption) ?_
        try simp only [Act.put, List.setIfInBounds_toArray, List.set_cons_zero, List.set_cons_succ]
        refine wpAnyH_ready (rs := [10]) (by kernel_rfl) (by simp) ?_
        refine AllReadyH.cons rfl (fun K hK => ?_) AllReadyH.nil
        have st1 := run_store_blk (P := Try.prog) (g := G) KN
        have ms1 : (mk 2 G).size = 2 := mk_size 2 _
        go_simp
        clear st1 ms1 hHeld
        have K0 := K0.rowOther bN (mk 2 G) (by omega)
        have K1 := K1.rowOther bN (mk 2 G) (by omega)
        have KS := KS.rowOther bN (mk 2 G) (by omega)
        have HX : Hid (Below w.heap.size w (y7.setRow bN (mk 2 G))) := below_setRow HX.out (by omega) _
        have KN := KN.row 2 G
        generalize y7.setRow bN (mk 2 G) = ys8 at *
        refine hK.out _ _ ⟨K0, K1⟩ (fun hHeld => ?_)
        clear hK K
        try simp only [Act.put, List.setIfInBounds_toArray, List.set_cons_zero, List.set_cons_succ]
        refine wpAnyH_take (i := 11) (oi := { dst := some 10, op := _, type := _, pos := _, after := _, guard := _ }) (v := .bool O) rfl (by kernel_rfl) (by kernel_rfl) (by kernel_rfl) (fun _ _ _ h => h) (Or.inl ⟨by rfl, by intro w hSw; clear hSw; go_simp; (try with_reducible rfl)⟩) (by assumption) ?_
        try simp only [Act.put, List.setIfInBounds_toArray, List.set_cons_zero, List.set_cons_succ]
        refine wpAnyH_done (by kernel_rfl) ?_ _
        clear hHeld
        go_wp2_with (first | ((with_reducible show wpList _ _ _ (Oper.mk _ (Op.load 26 _) _ _ _ _ :: _) _ _); refine loadC (KN) rfl rfl rfl ?_) | ((with_reducible show wpList _ _ _ (Oper.mk _ (Op.load 26 _) _ _ _ _ :: _) _ _); refine loadC (KS) rfl rfl rfl ?_))
        refine (eqIntA2_same _ _).mono ?_
        rintro e wz ⟨rfl, hb⟩
        have HX : Hid (Below w.heap.size w wz) := HX.out.trans (hb.mono HX.out.size)
        clear hb
        go_wp2_with fail
        go_ret
        exact ⟨rfl, HX.out⟩
      refine AllReadyH.cons rfl (fun K hK => ?_) AllReadyH.nil
      go_simp
      clear hHeld
      have hlb : w.heap.size + 1 < y1.heap.size := K1.lt
      have hls : bS < y1.heap.size := KS.lt
      have KN := Blk.new y1 2 (fun _ => 0) 26
      have K0 := K0.alloc (.cells (mk 2 fun _ => 0) 26)
      have K1 := K1.alloc (.cells (mk 2 fun _ => 0) 26)
      have KS := KS.alloc (.cells (mk 2 fun _ => 0) 26)
      have HX : Hid (Below w.heap.size w (y1.alloc (.cells (mk 2 fun _ => 0) 26))) := HX.out.alloc HX.out.size _
      generalize y1.alloc (.cells (mk 2 fun _ => 0) 26) = yn9 at *
      generalize y1.heap.size = bN at *
      refine hK.out _ _ ⟨K0, K1⟩ (fun hHeld => ?_)
      clear hK K
      try simp only [Act.put, List.setIfInBounds_toArray, List.set_cons_zero, List.set_cons_succ]
      refine wpAnyH_ready (rs := [4]) (by kernel_rfl) (by simp) ?_
      refine AllReadyH.cons rfl (fun K hK => ?_) AllReadyH.nil
      go_simp
      refine (toBoard_any a2 _).mono ?_
      rintro e y10 ⟨rfl, hb⟩
      have K0 := K0.below hb K0.lt
      have K1 := K1.below hb K1.lt
      have KS := KS.below hb KS.lt
      have KN := KN.below hb KN.lt
      have HX : Hid (Below w.heap.size w y10) := HX.out.trans (hb.mono HX.out.size)
      clear hb hHeld
      go_wp2_with fail
      refine hK.out _ _ ⟨K0, K1⟩ (fun hHeld => ?_)
      clear hK K
      try simp only [Act.put, List.setIfInBounds_toArray, List.set_cons_zero, List.set_cons_succ]
      refine wpAnyH_ready (rs := [5]) (by kernel_rfl) (by simp) ?_
      refine AllReadyH.cons rfl (fun K hK => ?_) AllReadyH.nil
      go_simp
      refine (IM.out _).mono ?_
      rintro e y11 ⟨rfl, hb⟩
      have K0 := K0.below hb K0.lt
      have K1 := K1.below hb K1.lt
      have KS := KS.below hb KS.lt
      have KN := KN.below hb KN.lt
      have HX : Hid (Below w.heap.size w y11) := HX.out.trans (hb.mono HX.out.size)
      clear hb hHeld
      go_wp2_with fail
      refine hK.out _ _ ⟨K0, K1⟩ (fun hHeld => ?_)
      clear hK K
      try simp only [Act.put, List.setIfInBounds_toArray, List.set_cons_zero, List.set_cons_succ]
      refine wpAnyH_take (i := 6) (oi := { dst := some 20, op := _, type := _, pos := _, after := _, guard := _ }) (v := .tuple #[.agg (mk 2 G), .bool O]) rfl (by kernel_rfl) (by kernel_rfl) (by kernel_rfl) (fun _ _ _ h => h) (Or.inl ⟨by rfl, by intro w hSw; clear hSw; go_simp; (try with_reducible rfl)⟩) (by assumption) ?_
      try simp only [Act.put, List.setIfInBounds_toArray, List.set_cons_zero, List.set_cons_succ]
      refine wpAnyH_take (i := 7) (oi := { dst := some 27, op := _, type := _, pos := _, after := _, guard := _ }) (v := .agg (mk 2 G)) rfl (by kernel_rfl) (by kernel_rfl) (by kernel_rfl) (fun _ _ _ h => h) (Or.inl ⟨by rfl, by intro w hSw; clear hSw; go_simp; (try with_reducible rfl)⟩) (by assumption) ?_
      try simp only [Act.put, List.setIfInBounds_toArray, List.set_cons_zero, List.set_cons_succ]
      refine wpAnyH_take (i := 8) (oi := { dst := some 28, op := _, type := _, pos := _, after := _, guard := _ }) (v := .bool O) rfl (by kernel_rfl) (by kernel_rfl) (by kernel_rfl) (fun _ _ _ h => h) (Or.inl ⟨by rfl, by intro w hSw; clear hSw; go_simp; (try with_reducible rfl)⟩) (by assumption) ?_
      try simp only [Act.put, List.setIfInBounds_toArray, List.set_cons_zero, List.set_cons_succ]
      refine wpAnyH_ready (rs := [10]) (by kernel_rfl) (by simp) ?_
      refine AllReadyH.cons rfl (fun K hK => ?_) AllReadyH.nil
      have st1 := run_store_blk (P := Try.prog) (g := G) KN
      have ms1 : (mk 2 G).size = 2 := mk_size 2 _
      go_simp
      clear st1 ms1 hHeld
      have K0 := K0.rowOther bN (mk 2 G) (by omega)
      have K1 := K1.rowOther bN (mk 2 G) (by omega)
      have KS := KS.rowOther bN (mk 2 G) (by omega)
      have HX : Hid (Below w.heap.size w (y11.setRow bN (mk 2 G))) := below_setRow HX.out (by omega) _
      have KN := KN.row 2 G
      generalize y11.setRow bN (mk 2 G) = ys12 at *
      refine hK.out _ _ ⟨K0, K1⟩ (fun hHeld => ?_)
      clear hK K
      try simp only [Act.put, List.setIfInBounds_toArray, List.set_cons_zero, List.set_cons_succ]
      refine wpAnyH_take (i := 11) (oi := { dst := some 10, op := _, type := _, pos := _, after := _, guard := _ }) (v := .bool O) rfl (by kernel_rfl) (by kernel_rfl) (by kernel_rfl) (fun _ _ _ h => h) (Or.inl ⟨by rfl, by intro w hSw; clear hSw; go_simp; (try with_reducible rfl)⟩) (by assumption) ?_
      try simp only [Act.put, List.setIfInBounds_toArray, List.set_cons_zero, List.set_cons_succ]
      refine wpAnyH_done (by kernel_rfl) ?_ _
      clear hHeld
      go_wp2_with (first | ((with_reducible show wpList _ _ _ (Oper.mk _ (Op.load 26 _) _ _ _ _ :: _) _ _); refine loadC (KN) rfl rfl rfl ?_) | ((with_reducible show wpList _ _ _ (Oper.mk _ (Op.load 26 _) _ _ _ _ :: _) _ _); refine loadC (KS) rfl rfl rfl ?_))
      refine (eqIntA2_same _ _).mono ?_
      rintro e wz ⟨rfl, hb⟩
      have HX : Hid (Below w.heap.size w wz) := HX.out.trans (hb.mono HX.out.size)
      clear hb
      go_wp2_with fail
      go_ret
      exact ⟨rfl, HX.out⟩
    refine AllReadyH.cons rfl (fun K hK => ?_) AllReadyH.nil
    go_simp
    clear hHeld
    have hlb : w.heap.size + 1 < yw.heap.size := K1.lt
    have hls : bS < yw.heap.size := KS.lt
    have KN := Blk.new yw 2 (fun _ => 0) 26
    have K0 := K0.alloc (.cells (mk 2 fun _ => 0) 26)
    have K1 := K1.alloc (.cells (mk 2 fun _ => 0) 26)
    have KS := KS.alloc (.cells (mk 2 fun _ => 0) 26)
    have HX : Hid (Below w.heap.size w (yw.alloc (.cells (mk 2 fun _ => 0) 26))) := HX.out.alloc HX.out.size _
    generalize yw.alloc (.cells (mk 2 fun _ => 0) 26) = yn13 at *
    generalize yw.heap.size = bN at *
    refine hK.out _ _ ⟨K0, K1⟩ (fun hHeld => ?_)
    clear hK K
    try simp only [Act.put, List.setIfInBounds_toArray, List.set_cons_zero, List.set_cons_succ]
    refine wpAnyH_ready (rs := [1]) (by kernel_rfl) (by simp) ?_
    refine AllReadyH.cons rfl (fun K hK => ?_) AllReadyH.nil
    go_simp
    refine (toBoard_any a0 _).mono ?_
    rintro e y14 ⟨rfl, hb⟩
    have K0 := K0.below hb K0.lt
    have K1 := K1.below hb K1.lt
    have KS := KS.below hb KS.lt
    have KN := KN.below hb KN.lt
    have HX : Hid (Below w.heap.size w y14) := HX.out.trans (hb.mono HX.out.size)
    clear hb hHeld
    go_wp2_with fail
    refine hK.out _ _ ⟨K0, K1⟩ (fun hHeld => ?_)
    clear hK K
    try simp only [Act.put, List.setIfInBounds_toArray, List.set_cons_zero, List.set_cons_succ]
    refine wpAnyH_ready (rs := [4]) (by kernel_rfl) (by simp) ?_
    refine AllReadyH.cons rfl (fun K hK => ?_) AllReadyH.nil
    go_simp
    refine (toBoard_any a2 _).mono ?_
    rintro e y15 ⟨rfl, hb⟩
    have K0 := K0.below hb K0.lt
    have K1 := K1.below hb K1.lt
    have KS := KS.below hb KS.lt
    have KN := KN.below hb KN.lt
    have HX : Hid (Below w.heap.size w y15) := HX.out.trans (hb.mono HX.out.size)
    clear hb hHeld
    go_wp2_with fail
    refine hK.out _ _ ⟨K0, K1⟩ (fun hHeld => ?_)
    clear hK K
    try simp only [Act.put, List.setIfInBounds_toArray, List.set_cons_zero, List.set_cons_succ]
    refine wpAnyH_ready (rs := [5]) (by kernel_rfl) (by simp) ?_
    refine AllReadyH.cons rfl (fun K hK => ?_) AllReadyH.nil
    go_simp
    refine (IM.out _).mono ?_
    rintro e y16 ⟨rfl, hb⟩
    have K0 := K0.below hb K0.lt
    have K1 := K1.below hb K1.lt
    have KS := KS.below hb KS.lt
    have KN := KN.below hb KN.lt
    have HX : Hid (Below w.heap.size w y16) := HX.out.trans (hb.mono HX.out.size)
    clear hb hHeld
    go_wp2_with fail
    refine hK.out _ _ ⟨K0, K1⟩ (fun hHeld => ?_)
    clear hK K
    try simp only [Act.put, List.setIfInBounds_toArray, List.set_cons_zero, List.set_cons_succ]
    refine wpAnyH_take (i := 6) (oi := { dst := some 20, op := _, type := _, pos := _, after := _, guard := _ }) (v := .tuple #[.agg (mk 2 G), .bool O]) rfl (by kernel_rfl) (by kernel_rfl) (by kernel_rfl) (fun _ _ _ h => h) (Or.inl ⟨by rfl, by intro w hSw; clear hSw; go_simp; (try with_reducible rfl)⟩) (by assumption) ?_
    try simp only [Act.put, List.setIfInBounds_toArray, List.set_cons_zero, List.set_cons_succ]
    refine wpAnyH_take (i := 7) (oi := { dst := some 27, op := _, type := _, pos := _, after := _, guard := _ }) (v := .agg (mk 2 G)) rfl (by kernel_rfl) (by kernel_rfl) (by kernel_rfl) (fun _ _ _ h => h) (Or.inl ⟨by rfl, by intro w hSw; clear hSw; go_simp; (try with_reducible rfl)⟩) (by assumption) ?_
    try simp only [Act.put, List.setIfInBounds_toArray, List.set_cons_zero, List.set_cons_succ]
    refine wpAnyH_take (i := 8) (oi := { dst := some 28, op := _, type := _, pos := _, after := _, guard := _ }) (v := .bool O) rfl (by kernel_rfl) (by kernel_rfl) (by kernel_rfl) (fun _ _ _ h => h) (Or.inl ⟨by rfl, by intro w hSw; clear hSw; go_simp; (try with_reducible rfl)⟩) (by assumption) ?_
    try simp only [Act.put, List.setIfInBounds_toArray, List.set_cons_zero, List.set_cons_succ]
    refine wpAnyH_ready (rs := [10]) (by kernel_rfl) (by simp) ?_
    refine AllReadyH.cons rfl (fun K hK => ?_) AllReadyH.nil
    have st1 := run_store_blk (P := Try.prog) (g := G) KN
    have ms1 : (mk 2 G).size = 2 := mk_size 2 _
    go_simp
    clear st1 ms1 hHeld
    have K0 := K0.rowOther bN (mk 2 G) (by omega)
    have K1 := K1.rowOther bN (mk 2 G) (by omega)
    have KS := KS.rowOther bN (mk 2 G) (by omega)
    have HX : Hid (Below w.heap.size w (y16.setRow bN (mk 2 G))) := below_setRow HX.out (by omega) _
    have KN := KN.row 2 G
    generalize y16.setRow bN (mk 2 G) = ys17 at *
    refine hK.out _ _ ⟨K0, K1⟩ (fun hHeld => ?_)
    clear hK K
    try simp only [Act.put, List.setIfInBounds_toArray, List.set_cons_zero, List.set_cons_succ]
    refine wpAnyH_take (i := 11) (oi := { dst := some 10, op := _, type := _, pos := _, after := _, guard := _ }) (v := .bool O) rfl (by kernel_rfl) (by kernel_rfl) (by kernel_rfl) (fun _ _ _ h => h) (Or.inl ⟨by rfl, by intro w hSw; clear hSw; go_simp; (try with_reducible rfl)⟩) (by assumption) ?_
    try simp only [Act.put, List.setIfInBounds_toArray, List.set_cons_zero, List.set_cons_succ]
    refine wpAnyH_done (by kernel_rfl) ?_ _
    clear hHeld
    go_wp2_with (first | ((with_reducible show wpList _ _ _ (Oper.mk _ (Op.load 26 _) _ _ _ _ :: _) _ _); refine loadC (KN) rfl rfl rfl ?_) | ((with_reducible show wpList _ _ _ (Oper.mk _ (Op.load 26 _) _ _ _ _ :: _) _ _); refine loadC (KS) rfl rfl rfl ?_))
    refine (eqIntA2_same _ _).mono ?_
    rintro e wz ⟨rfl, hb⟩
    have HX : Hid (Below w.heap.size w wz) := HX.out.trans (hb.mono HX.out.size)
    clear hb
    go_wp2_with fail
    go_ret
    exact ⟨rfl, HX.out⟩
  refine AllReadyH.cons rfl (fun K hK => ?_) AllReadyH.nil
  go_simp
  clear hHeld
  have hlb : w.heap.size + 1 < xw.heap.size := K1.lt
  have KN := Blk.new xw 2 (fun _ => 0) 26
  have K0 := K0.alloc (.cells (mk 2 fun _ => 0) 26)
  have K1 := K1.alloc (.cells (mk 2 fun _ => 0) 26)
  have HX : Hid (Below w.heap.size w (xw.alloc (.cells (mk 2 fun _ => 0) 26))) := HX.out.alloc HX.out.size _
  generalize xw.alloc (.cells (mk 2 fun _ => 0) 26) = xn13 at *
  generalize xw.heap.size = bN at *
  refine hK.out _ _ ⟨K0, K1⟩ (fun hHeld => ?_)
  clear hK K
  try simp only [Act.put, List.setIfInBounds_toArray, List.set_cons_zero, List.set_cons_succ]
  refine wpAnyH_ready (rs := [1]) (by kernel_rfl) (by simp) ?_
  refine AllReadyH.cons rfl (fun K hK => ?_) AllReadyH.nil
  go_simp
  refine (toBoard_any a0 _).mono ?_
  rintro e x14 ⟨rfl, hb⟩
  have K0 := K0.below hb K0.lt
  have K1 := K1.below hb K1.lt
  have KN := KN.below hb KN.lt
  have HX : Hid (Below w.heap.size w x14) := HX.out.trans (hb.mono HX.out.size)
  clear hb hHeld
  go_wp2_with fail
  refine hK.out _ _ ⟨K0, K1⟩ (fun hHeld => ?_)
  clear hK K
  try simp only [Act.put, List.setIfInBounds_toArray, List.set_cons_zero, List.set_cons_succ]
  refine wpAnyH_ready (rs := [4]) (by kernel_rfl) (by simp) ?_
  refine AllReadyH.cons rfl (fun K hK => ?_) AllReadyH.nil
  go_simp
  refine (toBoard_any a2 _).mono ?_
  rintro e x15 ⟨rfl, hb⟩
  have K0 := K0.below hb K0.lt
  have K1 := K1.below hb K1.lt
  have KN := KN.below hb KN.lt
  have HX : Hid (Below w.heap.size w x15) := HX.out.trans (hb.mono HX.out.size)
  clear hb hHeld
  go_wp2_with fail
  refine hK.out _ _ ⟨K0, K1⟩ (fun hHeld => ?_)
  clear hK K
  try simp only [Act.put, List.setIfInBounds_toArray, List.set_cons_zero, List.set_cons_succ]
  refine wpAnyH_ready (rs := [5]) (by kernel_rfl) (by simp) ?_
  refine AllReadyH.cons rfl (fun K hK => ?_) AllReadyH.nil
  go_simp
  refine (SP.out _).mono ?_
  rintro e x16 ⟨rfl, hb⟩
  have K0 := K0.below hb K0.lt
  have K1 := K1.below hb K1.lt
  have KN := KN.below hb KN.lt
  have HX : Hid (Below w.heap.size w x16) := HX.out.trans (hb.mono HX.out.size)
  clear hb hHeld
  go_wp2_with fail
  refine hK.out _ _ ⟨K0, K1⟩ (fun hHeld => ?_)
  clear hK K
  try simp only [Act.put, List.setIfInBounds_toArray, List.set_cons_zero, List.set_cons_succ]
  refine wpAnyH_take (i := 6) (oi := { dst := some 11, op := _, type := _, pos := _, after := _, guard := _ }) (v := .tuple #[.agg (mk 2 G), .bool O]) rfl (by kernel_rfl) (by kernel_rfl) (by kernel_rfl) (fun _ _ _ h => h) (Or.inl ⟨by rfl, by intro w hSw; clear hSw; go_simp; (try with_reducible rfl)⟩) (by assumption) ?_
  try simp only [Act.put, List.setIfInBounds_toArray, List.set_cons_zero, List.set_cons_succ]
  refine wpAnyH_take (i := 7) (oi := { dst := some 18, op := _, type := _, pos := _, after := _, guard := _ }) (v := .agg (mk 2 G)) rfl (by kernel_rfl) (by kernel_rfl) (by kernel_rfl) (fun _ _ _ h => h) (Or.inl ⟨by rfl, by intro w hSw; clear hSw; go_simp; (try with_reducible rfl)⟩) (by assumption) ?_
  try simp only [Act.put, List.setIfInBounds_toArray, List.set_cons_zero, List.set_cons_succ]
  refine wpAnyH_take (i := 8) (oi := { dst := some 19, op := _, type := _, pos := _, after := _, guard := _ }) (v := .bool O) rfl (by kernel_rfl) (by kernel_rfl) (by kernel_rfl) (fun _ _ _ h => h) (Or.inl ⟨by rfl, by intro w hSw; clear hSw; go_simp; (try with_reducible rfl)⟩) (by assumption) ?_
  try simp only [Act.put, List.setIfInBounds_toArray, List.set_cons_zero, List.set_cons_succ]
  refine wpAnyH_ready (rs := [10]) (by kernel_rfl) (by simp) ?_
  refine AllReadyH.cons rfl (fun K hK => ?_) AllReadyH.nil
  have st1 := run_store_blk (P := Try.prog) (g := G) KN
  have ms1 : (mk 2 G).size = 2 := mk_size 2 _
  go_simp
  clear st1 ms1 hHeld
  have K0 := K0.rowOther bN (mk 2 G) (by omega)
  have K1 := K1.rowOther bN (mk 2 G) (by omega)
  have HX : Hid (Below w.heap.size w (x16.setRow bN (mk 2 G))) := below_setRow HX.out (by omega) _
  have KN := KN.row 2 G
  generalize x16.setRow bN (mk 2 G) = xs17 at *
  refine hK.out _ _ ⟨K0, K1⟩ (fun hHeld => ?_)
  clear hK K
  try simp only [Act.put, List.setIfInBounds_toArray, List.set_cons_zero, List.set_cons_succ]
  refine wpAnyH_take (i := 11) (oi := { dst := some 8, op := _, type := _, pos := _, after := _, guard := _ }) (v := .bool O) rfl (by kernel_rfl) (by kernel_rfl) (by kernel_rfl) (fun _ _ _ h => h) (Or.inl ⟨by rfl, by intro w hSw; clear hSw; go_simp; (try with_reducible rfl)⟩) (by assumption) ?_
  try simp only [Act.put, List.setIfInBounds_toArray, List.set_cons_zero, List.set_cons_succ]
  refine wpAnyH_done (by kernel_rfl) ?_ _
  clear hHeld
  have KS := KN
  clear KN
  generalize hbS : bN = bS at *
  clear hbS
  go_wp2_with fail
  refine wp_region_held_drew (S := fun W => Blk W w.heap.size 16 a0 25 ∧ Blk W (w.heap.size + 1) 16 a2 25) (by kernel_rfl) (⟨K0.drew, K1.drew⟩) (fun hHeld => ?_)
  have K0 := K0.drew
  have K1 := K1.drew
  have KS := KS.drew
  have HX : Hid (Below w.heap.size w xs17.drew) := HX.out.drew
  clear hHeld
  generalize xs17.drew = yw at *
  have hHeld : Blk yw w.heap.size 16 a0 25 ∧ Blk yw (w.heap.size + 1) 16 a2 25 := ⟨K0, K1⟩
  refine wpAnyH_take (i := 0) (oi := { dst := some 21, op := _, type := _, pos := _, after := _, guard := _ }) (v := .agg (mk 16 a0)) rfl (by kernel_rfl) (by kernel_rfl) (by kernel_rfl) (fun _ _ _ h => h) (Or.inl ⟨by rfl, fun _ q => execK9 q.1 rfl rfl⟩) (by assumption) ?_
  try simp only [Act.put, List.setIfInBounds_toArray, List.set_cons_zero, List.set_cons_succ]
  refine wpAnyH_take (i := 2) (oi := { dst := some 23, op := _, type := _, pos := _, after := _, guard := _ }) (v := .int .i64 a1) rfl (by kernel_rfl) (by kernel_rfl) (by kernel_rfl) (fun _ _ _ h => h) (Or.inl ⟨by rfl, by intro w hSw; clear hSw; go_simp; (try with_reducible rfl)⟩) (by assumption) ?_
  try simp only [Act.put, List.setIfInBounds_toArray, List.set_cons_zero, List.set_cons_succ]
  refine wpAnyH_take (i := 3) (oi := { dst := some 24, op := _, type := _, pos := _, after := _, guard := _ }) (v := .agg (mk 16 a2)) rfl (by kernel_rfl) (by kernel_rfl) (by kernel_rfl) (fun _ _ _ h => h) (Or.inl ⟨by rfl, fun _ q => execK9 q.2 rfl rfl⟩) (by assumption) ?_
  try simp only [Act.put, List.setIfInBounds_toArray, List.set_cons_zero, List.set_cons_succ]
  refine wpAnyH_ready (rs := [1, 9]) (by kernel_rfl) (by simp) ?_
  refine AllReadyH.cons rfl (fun K hK => ?_) ?_
  · go_simp
    refine (toBoard_any a0 _).mono ?_
    rintro e y1 ⟨rfl, hb⟩
    have K0 := K0.below hb K0.lt
    have K1 := K1.below hb K1.lt
    have KS := KS.below hb KS.lt
    have HX : Hid (Below w.heap.size w y1) := HX.out.trans (hb.mono HX.out.size)
    clear hb hHeld
    go_wp2_with fail
    refine hK.out _ _ ⟨K0, K1⟩ (fun hHeld => ?_)
    clear hK K
    try simp only [Act.put, List.setIfInBounds_toArray, List.set_cons_zero, List.set_cons_succ]
    refine wpAnyH_ready (rs := [4, 9]) (by kernel_rfl) (by simp) ?_
    refine AllReadyH.cons rfl (fun K hK => ?_) ?_
    · go_simp
      refine (toBoard_any a2 _).mono ?_
      rintro e y2 ⟨rfl, hb⟩
      have K0 := K0.below hb K0.lt
      have K1 := K1.below hb K1.lt
      have KS := KS.below hb KS.lt
      have HX : Hid (Below w.heap.size w y2) := HX.out.trans (hb.mono HX.out.size)
      clear hb hHeld
      go_wp2_with fail
      refine hK.out _ _ ⟨K0, K1⟩ (fun hHeld => ?_)
      clear hK K
      try simp only [Act.put, List.setIfInBounds_toArray, List.set_cons_zero, List.set_cons_succ]
      refine wpAnyH_ready (rs := [5, 9]) (by kernel_rfl) (by simp) ?_
      refine AllReadyH.cons rfl (fun K hK => ?_) ?_
      · go_simp
        refine (IM.out _).mono ?_
        rintro e y3 ⟨rfl, hb⟩
        have K0 := K0.below hb K0.lt
        have K1 := K1.below hb K1.lt
        have KS := KS.below hb KS.lt
        have HX : Hid (Below w.heap.size w y3) := HX.out.trans (hb.mono HX.out.size)
        clear hb hHeld
        go_wp2_with fail
        refine hK.out _ _ ⟨K0, K1⟩ (fun hHeld => ?_)
        clear hK K
        try simp only [Act.put, List.setIfInBounds_toArray, List.set_cons_zero, List.set_cons_succ]
        refine wpAnyH_take (i := 6) (oi := { dst := some 20, op := _, type := _, pos := _, after := _, guard := _ }) (v := .tuple #[.agg (mk 2 G), .bool O]) rfl (by kernel_rfl) (by kernel_rfl) (by kernel_rfl) (fun _ _ _ h => h) (Or.inl ⟨by rfl, by intro w hSw; clear hSw; go_simp; (try with_reducible rfl)⟩) (by assumption) ?_
        try simp only [Act.put, List.setIfInBounds_toArray, List.set_cons_zero, List.set_cons_succ]
        refine wpAnyH_take (i := 7) (oi := { dst := some 27, op := _, type := _, pos := _, after := _, guard := _ }) (v := .agg (mk 2 G)) rfl (by kernel_rfl) (by kernel_rfl) (by kernel_rfl) (fun _ _ _ h => h) (Or.inl ⟨by rfl, by intro w hSw; clear hSw; go_simp; (try with_reducible rfl)⟩) (by assumption) ?_
        try simp only [Act.put, List.setIfInBounds_toArray, List.set_cons_zero, List.set_cons_succ]
        refine wpAnyH_take (i := 8) (oi := { dst := some 28, op := _, type := _, pos := _, after := _, guard := _ }) (v := .bool O) rfl (by kernel_rfl) (by kernel_rfl) (by kernel_rfl) (fun _ _ _ h => h) (Or.inl ⟨by rfl, by intro w hSw; clear hSw; go_simp; (try with_reducible rfl)⟩) (by assumption) ?_
        try simp only [Act.put, List.setIfInBounds_toArray, List.set_cons_zero, List.set_cons_succ]
        refine wpAnyH_ready (rs := [9]) (by kernel_rfl) (by simp) ?_
        refine AllReadyH.cons rfl (fun K hK => ?_) AllReadyH.nil
        go_simp
        clear hHeld
        have hlb : w.heap.size + 1 < y3.heap.size := K1.lt
        have hls : bS < y3.heap.size := KS.lt
        have KN := Blk.new y3 2 (fun _ => 0) 26
        have K0 := K0.alloc (.cells (mk 2 fun _ => 0) 26)
        have K1 := K1.alloc (.cells (mk 2 fun _ => 0) 26)
        have KS := KS.alloc (.cells (mk 2 fun _ => 0) 26)
        have HX : Hid (Below w.heap.size w (y3.alloc (.cells (mk 2 fun _ => 0) 26))) := HX.out.alloc HX.out.size _
        generalize y3.alloc (.cells (mk 2 fun _ => 0) 26) = yn4 at *
        generalize y3.heap.size = bN at *
        refine hK.out _ _ ⟨K0, K1⟩ (fun hHeld => ?_)
        clear hK K
        try simp only [Act.put, List.setIfInBounds_toArray, List.set_cons_zero, List.set_cons_succ]
        refine wpAnyH_ready (rs := [10]) (by kernel_rfl) (by simp) ?_
        refine AllReadyH.cons rfl (fun K hK => ?_) AllReadyH.nil
        have st1 := run_store_blk (P := Try.prog) (g := G) KN
        have ms1 : (mk 2 G).size = 2 := mk_size 2 _
        go_simp
        clear st1 ms1 hHeld
        have K0 := K0.rowOther bN (mk 2 G) (by omega)
        have K1 := K1.rowOther bN (mk 2 G) (by omega)
        have KS := KS.rowOther bN (mk 2 G) (by omega)
        have HX : Hid (Below w.heap.size w (yn4.setRow bN (mk 2 G))) := below_setRow HX.out (by omega) _
        have KN := KN.row 2 G
        generalize yn4.setRow bN (mk 2 G) = ys5 at *
        refine hK.out _ _ ⟨K0, K1⟩ (fun hHeld => ?_)
        clear hK K
        try simp only [Act.put, List.setIfInBounds_toArray, List.set_cons_zero, List.set_cons_succ]
        refine wpAnyH_take (i := 11) (oi := { dst := some 10, op := _, type := _, pos := _, after := _, guard := _ }) (v := .bool O) rfl (by kernel_rfl) (by kernel_rfl) (by kernel_rfl) (fun _ _ _ h => h) (Or.inl ⟨by rfl, by intro w hSw; clear hSw; go_simp; (try with_reducible rfl)⟩) (by assumption) ?_
        try simp only [Act.put, List.setIfInBounds_toArray, List.set_cons_zero, List.set_cons_succ]
        refine wpAnyH_done (by kernel_rfl) ?_ _
        clear hHeld
        go_wp2_with (first | ((with_reducible show wpList _ _ _ (Oper.mk _ (Op.load 26 _) _ _ _ _ :: _) _ _); refine loadC (KN) rfl rfl rfl ?_) | ((with_reducible show wpList _ _ _ (Oper.mk _ (Op.load 26 _) _ _ _ _ :: _) _ _); refine loadC (KS) rfl rfl rfl ?_))
        refine (eqIntA2_same _ _).mono ?_
        rintro e wz ⟨rfl, hb⟩
        have HX : Hid (Below w.heap.size w wz) := HX.out.trans (hb.mono HX.out.size)
        clear hb
        go_wp2_with fail
        go_ret
        exact ⟨rfl, HX.out⟩
      refine AllReadyH.cons rfl (fun K hK => ?_) AllReadyH.nil
      go_simp
      clear hHeld
      have hlb : w.heap.size + 1 < y2.heap.size := K1.lt
      have hls : bS < y2.heap.size := KS.lt
      have KN := Blk.new y2 2 (fun _ => 0) 26
      have K0 := K0.alloc (.cells (mk 2 fun _ => 0) 26)
      have K1 := K1.alloc (.cells (mk 2 fun _ => 0) 26)
      have KS := KS.alloc (.cells (mk 2 fun _ => 0) 26)
      have HX : Hid (Below w.heap.size w (y2.alloc (.cells (mk 2 fun _ => 0) 26))) := HX.out.alloc HX.out.size _
      generalize y2.alloc (.cells (mk 2 fun _ => 0) 26) = yn6 at *
      generalize y2.heap.size = bN at *
      refine hK.out _ _ ⟨K0, K1⟩ (fun hHeld => ?_)
      clear hK K
      try simp only [Act.put, List.setIfInBounds_toArray, List.set_cons_zero, List.set_cons_succ]
      refine wpAnyH_ready (rs := [5]) (by kernel_rfl) (by simp) ?_
      refine AllReadyH.cons rfl (fun K hK => ?_) AllReadyH.nil
      go_simp
      refine (IM.out _).mono ?_
      rintro e y7 ⟨rfl, hb⟩
      have K0 := K0.below hb K0.lt
      have K1 := K1.below hb K1.lt
      have KS := KS.below hb KS.lt
      have KN := KN.below hb KN.lt
      have HX : Hid (Below w.heap.size w y7) := HX.out.trans (hb.mono HX.out.size)
      clear hb hHeld
      go_wp2_with fail
      refine hK.out _ _ ⟨K0, K1⟩ (fun hHeld => ?_)
      clear hK K
      try simp only [Act.put, List.setIfInBounds_toArray, List.set_cons_zero, List.set_cons_succ]
      refine wpAnyH_take (i := 6) (oi := { dst := some 20, op := _, type := _, pos := _, after := _, guard := _ }) (v := .tuple #[.agg (mk 2 G), .bool O]) rfl (by kernel_rfl) (by kernel_rfl) (by kernel_rfl) (fun _ _ _ h => h) (Or.inl ⟨by rfl, by intro w hSw; clear hSw; go_simp; (try with_reducible rfl)⟩) (by assumption) ?_
      try simp only [Act.put, List.setIfInBounds_toArray, List.set_cons_zero, List.set_cons_succ]
      refine wpAnyH_take (i := 7) (oi := { dst := some 27, op := _, type := _, pos := _, after := _, guard := _ }) (v := .agg (mk 2 G)) rfl (by kernel_rfl) (by kernel_rfl) (by kernel_rfl) (fun _ _ _ h => h) (Or.inl ⟨by rfl, by intro w hSw; clear hSw; go_simp; (try with_reducible rfl)⟩) (by assumption) ?_
      try simp only [Act.put, List.setIfInBounds_toArray, List.set_cons_zero, List.set_cons_succ]
      refine wpAnyH_take (i := 8) (oi := { dst := some 28, op := _, type := _, pos := _, after := _, guard := _ }) (v := .bool O) rfl (by kernel_rfl) (by kernel_rfl) (by kernel_rfl) (fun _ _ _ h => h) (Or.inl ⟨by rfl, by intro w hSw; clear hSw; go_simp; (try with_reducible rfl)⟩) (by assumption) ?_
      try simp only [Act.put, List.setIfInBounds_toArray, List.set_cons_zero, List.set_cons_succ]
      refine wpAnyH_ready (rs := [10]) (by kernel_rfl) (by simp) ?_
      refine AllReadyH.cons rfl (fun K hK => ?_) AllReadyH.nil
      have st1 := run_store_blk (P := Try.prog) (g := G) KN
      have ms1 : (mk 2 G).size = 2 := mk_size 2 _
      go_simp
      clear st1 ms1 hHeld
      have K0 := K0.rowOther bN (mk 2 G) (by omega)
      have K1 := K1.rowOther bN (mk 2 G) (by omega)
      have KS := KS.rowOther bN (mk 2 G) (by omega)
      have HX : Hid (Below w.heap.size w (y7.setRow bN (mk 2 G))) := below_setRow HX.out (by omega) _
      have KN := KN.row 2 G
      generalize y7.setRow bN (mk 2 G) = ys8 at *
      refine hK.out _ _ ⟨K0, K1⟩ (fun hHeld => ?_)
      clear hK K
      try simp only [Act.put, List.setIfInBounds_toArray, List.set_cons_zero, List.set_cons_succ]
      refine wpAnyH_take (i := 11) (oi := { dst := some 10, op := _, type := _, pos := _, after := _, guard := _ }) (v := .bool O) rfl (by kernel_rfl) (by kernel_rfl) (by kernel_rfl) (fun _ _ _ h => h) (Or.inl ⟨by rfl, by intro w hSw; clear hSw; go_simp; (try with_reducible rfl)⟩) (by assumption) ?_
      try simp only [Act.put, List.setIfInBounds_toArray, List.set_cons_zero, List.set_cons_succ]
      refine wpAnyH_done (by kernel_rfl) ?_ _
      clear hHeld
      go_wp2_with (first | ((with_reducible show wpList _ _ _ (Oper.mk _ (Op.load 26 _) _ _ _ _ :: _) _ _); refine loadC (KN) rfl rfl rfl ?_) | ((with_reducible show wpList _ _ _ (Oper.mk _ (Op.load 26 _) _ _ _ _ :: _) _ _); refine loadC (KS) rfl rfl rfl ?_))
      refine (eqIntA2_same _ _).mono ?_
      rintro e wz ⟨rfl, hb⟩
      have HX : Hid (Below w.heap.size w wz) := HX.out.trans (hb.mono HX.out.size)
      clear hb
      go_wp2_with fail
      go_ret
      exact ⟨rfl, HX.out⟩
    refine AllReadyH.cons rfl (fun K hK => ?_) AllReadyH.nil
    go_simp
    clear hHeld
    have hlb : w.heap.size + 1 < y1.heap.size := K1.lt
    have hls : bS < y1.heap.size := KS.lt
    have KN := Blk.new y1 2 (fun _ => 0) 26
    have K0 := K0.alloc (.cells (mk 2 fun _ => 0) 26)
    have K1 := K1.alloc (.cells (mk 2 fun _ => 0) 26)
    have KS := KS.alloc (.cells (mk 2 fun _ => 0) 26)
    have HX : Hid (Below w.heap.size w (y1.alloc (.cells (mk 2 fun _ => 0) 26))) := HX.out.alloc HX.out.size _
    generalize y1.alloc (.cells (mk 2 fun _ => 0) 26) = yn9 at *
    generalize y1.heap.size = bN at *
    refine hK.out _ _ ⟨K0, K1⟩ (fun hHeld => ?_)
    clear hK K
    try simp only [Act.put, List.setIfInBounds_toArray, List.set_cons_zero, List.set_cons_succ]
    refine wpAnyH_ready (rs := [4]) (by kernel_rfl) (by simp) ?_
    refine AllReadyH.cons rfl (fun K hK => ?_) AllReadyH.nil
    go_simp
    refine (toBoard_any a2 _).mono ?_
    rintro e y10 ⟨rfl, hb⟩
    have K0 := K0.below hb K0.lt
    have K1 := K1.below hb K1.lt
    have KS := KS.below hb KS.lt
    have KN := KN.below hb KN.lt
    have HX : Hid (Below w.heap.size w y10) := HX.out.trans (hb.mono HX.out.size)
    clear hb hHeld
    go_wp2_with fail
    refine hK.out _ _ ⟨K0, K1⟩ (fun hHeld => ?_)
    clear hK K
    try simp only [Act.put, List.setIfInBounds_toArray, List.set_cons_zero, List.set_cons_succ]
    refine wpAnyH_ready (rs := [5]) (by kernel_rfl) (by simp) ?_
    refine AllReadyH.cons rfl (fun K hK => ?_) AllReadyH.nil
    go_simp
    refine (IM.out _).mono ?_
    rintro e y11 ⟨rfl, hb⟩
    have K0 := K0.below hb K0.lt
    have K1 := K1.below hb K1.lt
    have KS := KS.below hb KS.lt
    have KN := KN.below hb KN.lt
    have HX : Hid (Below w.heap.size w y11) := HX.out.trans (hb.mono HX.out.size)
    clear hb hHeld
    go_wp2_with fail
    refine hK.out _ _ ⟨K0, K1⟩ (fun hHeld => ?_)
    clear hK K
    try simp only [Act.put, List.setIfInBounds_toArray, List.set_cons_zero, List.set_cons_succ]
    refine wpAnyH_take (i := 6) (oi := { dst := some 20, op := _, type := _, pos := _, after := _, guard := _ }) (v := .tuple #[.agg (mk 2 G), .bool O]) rfl (by kernel_rfl) (by kernel_rfl) (by kernel_rfl) (fun _ _ _ h => h) (Or.inl ⟨by rfl, by intro w hSw; clear hSw; go_simp; (try with_reducible rfl)⟩) (by assumption) ?_
    try simp only [Act.put, List.setIfInBounds_toArray, List.set_cons_zero, List.set_cons_succ]
    refine wpAnyH_take (i := 7) (oi := { dst := some 27, op := _, type := _, pos := _, after := _, guard := _ }) (v := .agg (mk 2 G)) rfl (by kernel_rfl) (by kernel_rfl) (by kernel_rfl) (fun _ _ _ h => h) (Or.inl ⟨by rfl, by intro w hSw; clear hSw; go_simp; (try with_reducible rfl)⟩) (by assumption) ?_
    try simp only [Act.put, List.setIfInBounds_toArray, List.set_cons_zero, List.set_cons_succ]
    refine wpAnyH_take (i := 8) (oi := { dst := some 28, op := _, type := _, pos := _, after := _, guard := _ }) (v := .bool O) rfl (by kernel_rfl) (by kernel_rfl) (by kernel_rfl) (fun _ _ _ h => h) (Or.inl ⟨by rfl, by intro w hSw; clear hSw; go_simp; (try with_reducible rfl)⟩) (by assumption) ?_
    try simp only [Act.put, List.setIfInBounds_toArray, List.set_cons_zero, List.set_cons_succ]
    refine wpAnyH_ready (rs := [10]) (by kernel_rfl) (by simp) ?_
    refine AllReadyH.cons rfl (fun K hK => ?_) AllReadyH.nil
    have st1 := run_store_blk (P := Try.prog) (g := G) KN
    have ms1 : (mk 2 G).size = 2 := mk_size 2 _
    go_simp
    clear st1 ms1 hHeld
    have K0 := K0.rowOther bN (mk 2 G) (by omega)
    have K1 := K1.rowOther bN (mk 2 G) (by omega)
    have KS := KS.rowOther bN (mk 2 G) (by omega)
    have HX : Hid (Below w.heap.size w (y11.setRow bN (mk 2 G))) := below_setRow HX.out (by omega) _
    have KN := KN.row 2 G
    generalize y11.setRow bN (mk 2 G) = ys12 at *
    refine hK.out _ _ ⟨K0, K1⟩ (fun hHeld => ?_)
    clear hK K
    try simp only [Act.put, List.setIfInBounds_toArray, List.set_cons_zero, List.set_cons_succ]
    refine wpAnyH_take (i := 11) (oi := { dst := some 10, op := _, type := _, pos := _, after := _, guard := _ }) (v := .bool O) rfl (by kernel_rfl) (by kernel_rfl) (by kernel_rfl) (fun _ _ _ h => h) (Or.inl ⟨by rfl, by intro w hSw; clear hSw; go_simp; (try with_reducible rfl)⟩) (by assumption) ?_
    try simp only [Act.put, List.setIfInBounds_toArray, List.set_cons_zero, List.set_cons_succ]
    refine wpAnyH_done (by kernel_rfl) ?_ _
    clear hHeld
    go_wp2_with (first | ((with_reducible show wpList _ _ _ (Oper.mk _ (Op.load 26 _) _ _ _ _ :: _) _ _); refine loadC (KN) rfl rfl rfl ?_) | ((with_reducible show wpList _ _ _ (Oper.mk _ (Op.load 26 _) _ _ _ _ :: _) _ _); refine loadC (KS) rfl rfl rfl ?_))
    refine (eqIntA2_same _ _).mono ?_
    rintro e wz ⟨rfl, hb⟩
    have HX : Hid (Below w.heap.size w wz) := HX.out.trans (hb.mono HX.out.size)
    clear hb
    go_wp2_with fail
    go_ret
    exact ⟨rfl, HX.out⟩
  refine AllReadyH.cons rfl (fun K hK => ?_) AllReadyH.nil
  go_simp
  clear hHeld
  have hlb : w.heap.size + 1 < yw.heap.size := K1.lt
  have hls : bS < yw.heap.size := KS.lt
  have KN := Blk.new yw 2 (fun _ => 0) 26
  have K0 := K0.alloc (.cells (mk 2 fun _ => 0) 26)
  have K1 := K1.alloc (.cells (mk 2 fun _ => 0) 26)
  have KS := KS.alloc (.cells (mk 2 fun _ => 0) 26)
  have HX : Hid (Below w.heap.size w (yw.alloc (.cells (mk 2 fun _ => 0) 26))) := HX.out.alloc HX.out.size _
  generalize yw.alloc (.cells (mk 2 fun _ => 0) 26) = yn13 at *
  generalize yw.heap.size = bN at *
  refine hK.out _ _ ⟨K0, K1⟩ (fun hHeld => ?_)
  clear hK K
  try simp only [Act.put, List.setIfInBounds_toArray, List.set_cons_zero, List.set_cons_succ]
  refine wpAnyH_ready (rs := [1]) (by kernel_rfl) (by simp) ?_
  refine AllReadyH.cons rfl (fun K hK => ?_) AllReadyH.nil
  go_simp
  refine (toBoard_any a0 _).mono ?_
  rintro e y14 ⟨rfl, hb⟩
  have K0 := K0.below hb K0.lt
  have K1 := K1.below hb K1.lt
  have KS := KS.below hb KS.lt
  have KN := KN.below hb KN.lt
  have HX : Hid (Below w.heap.size w y14) := HX.out.trans (hb.mono HX.out.size)
  clear hb hHeld
  go_wp2_with fail
  refine hK.out _ _ ⟨K0, K1⟩ (fun hHeld => ?_)
  clear hK K
  try simp only [Act.put, List.setIfInBounds_toArray, List.set_cons_zero, List.set_cons_succ]
  refine wpAnyH_ready (rs := [4]) (by kernel_rfl) (by simp) ?_
  refine AllReadyH.cons rfl (fun K hK => ?_) AllReadyH.nil
  go_simp
  refine (toBoard_any a2 _).mono ?_
  rintro e y15 ⟨rfl, hb⟩
  have K0 := K0.below hb K0.lt
  have K1 := K1.below hb K1.lt
  have KS := KS.below hb KS.lt
  have KN := KN.below hb KN.lt
  have HX : Hid (Below w.heap.size w y15) := HX.out.trans (hb.mono HX.out.size)
  clear hb hHeld
  go_wp2_with fail
  refine hK.out _ _ ⟨K0, K1⟩ (fun hHeld => ?_)
  clear hK K
  try simp only [Act.put, List.setIfInBounds_toArray, List.set_cons_zero, List.set_cons_succ]
  refine wpAnyH_ready (rs := [5]) (by kernel_rfl) (by simp) ?_
  refine AllReadyH.cons rfl (fun K hK => ?_) AllReadyH.nil
  go_simp
  refine (IM.out _).mono ?_
  rintro e y16 ⟨rfl, hb⟩
  have K0 := K0.below hb K0.lt
  have K1 := K1.below hb K1.lt
  have KS := KS.below hb KS.lt
  have KN := KN.below hb KN.lt
  have HX : Hid (Below w.heap.size w y16) := HX.out.trans (hb.mono HX.out.size)
  clear hb hHeld
  go_wp2_with fail
  refine hK.out _ _ ⟨K0, K1⟩ (fun hHeld => ?_)
  clear hK K
  try simp only [Act.put, List.setIfInBounds_toArray, List.set_cons_zero, List.set_cons_succ]
  refine wpAnyH_take (i := 6) (oi := { dst := some 20, op := _, type := _, pos := _, after := _, guard := _ }) (v := .tuple #[.agg (mk 2 G), .bool O]) rfl (by kernel_rfl) (by kernel_rfl) (by kernel_rfl) (fun _ _ _ h => h) (Or.inl ⟨by rfl, by intro w hSw; clear hSw; go_simp; (try with_reducible rfl)⟩) (by assumption) ?_
  try simp only [Act.put, List.setIfInBounds_toArray, List.set_cons_zero, List.set_cons_succ]
  refine wpAnyH_take (i := 7) (oi := { dst := some 27, op := _, type := _, pos := _, after := _, guard := _ }) (v := .agg (mk 2 G)) rfl (by kernel_rfl) (by kernel_rfl) (by kernel_rfl) (fun _ _ _ h => h) (Or.inl ⟨by rfl, by intro w hSw; clear hSw; go_simp; (try with_reducible rfl)⟩) (by assumption) ?_
  try simp only [Act.put, List.setIfInBounds_toArray, List.set_cons_zero, List.set_cons_succ]
  refine wpAnyH_take (i := 8) (oi := { dst := some 28, op := _, type := _, pos := _, after := _, guard := _ }) (v := .bool O) rfl (by kernel_rfl) (by kernel_rfl) (by kernel_rfl) (fun _ _ _ h => h) (Or.inl ⟨by rfl, by intro w hSw; clear hSw; go_simp; (try with_reducible rfl)⟩) (by assumption) ?_
  try simp only [Act.put, List.setIfInBounds_toArray, List.set_cons_zero, List.set_cons_succ]
  refine wpAnyH_ready (rs := [10]) (by kernel_rfl) (by simp) ?_
  refine AllReadyH.cons rfl (fun K hK => ?_) AllReadyH.nil
  have st1 := run_store_blk (P := Try.prog) (g := G) KN
  have ms1 : (mk 2 G).size = 2 := mk_size 2 _
  go_simp
  clear st1 ms1 hHeld
  have K0 := K0.rowOther bN (mk 2 G) (by omega)
  have K1 := K1.rowOther bN (mk 2 G) (by omega)
  have KS := KS.rowOther bN (mk 2 G) (by omega)
  have HX : Hid (Below w.heap.size w (y16.setRow bN (mk 2 G))) := below_setRow HX.out (by omega) _
  have KN := KN.row 2 G
  generalize y16.setRow bN (mk 2 G) = ys17 at *
  refine hK.out _ _ ⟨K0, K1⟩ (fun hHeld => ?_)
  clear hK K
  try simp only [Act.put, List.setIfInBounds_toArray, List.set_cons_zero, List.set_cons_succ]
  refine wpAnyH_take (i := 11) (oi := { dst := some 10, op := _, type := _, pos := _, after := _, guard := _ }) (v := .bool O) rfl (by kernel_rfl) (by kernel_rfl) (by kernel_rfl) (fun _ _ _ h => h) (Or.inl ⟨by rfl, by intro w hSw; clear hSw; go_simp; (try with_reducible rfl)⟩) (by assumption) ?_
  try simp only [Act.put, List.setIfInBounds_toArray, List.set_cons_zero, List.set_cons_succ]
  refine wpAnyH_done (by kernel_rfl) ?_ _
  clear hHeld
  go_wp2_with (first | ((with_reducible show wpList _ _ _ (Oper.mk _ (Op.load 26 _) _ _ _ _ :: _) _ _); refine loadC (KN) rfl rfl rfl ?_) | ((with_reducible show wpList _ _ _ (Oper.mk _ (Op.load 26 _) _ _ _ _ :: _) _ _); refine loadC (KS) rfl rfl rfl ?_))
  refine (eqIntA2_same _ _).mono ?_
  rintro e wz ⟨rfl, hb⟩
  have HX : Hid (Below w.heap.size w wz) := HX.out.trans (hb.mono HX.out.size)
  clear hb
  go_wp2_with fail
  go_ret
  exact ⟨rfl, HX.out⟩

noncomputable def laidWorld (os : Os) : World := World.holding Try.prog os ⟨#[], #[], []⟩
theorem laid_met (os : Os) : laidMet Try.prog Rows.fnExactChanceOfNextRow.laid ((laidWorld os).forCall (fun _ _ => 0) ⟨#[], #[.agg #[.int .i64 0, .int .i64 0, .int .i64 0, .int .i64 0, .int .i64 0, .int .i64 0, .int .i64 0, .int .i64 0, .int .i64 0, .int .i64 0, .int .i64 0, .int .i64 0, .int .i64 0, .int .i64 0, .int .i64 0, .int .i64 0], .int .i64 0, .agg #[.int .i64 0, .int .i64 0, .int .i64 0, .int .i64 0, .int .i64 0, .int .i64 0, .int .i64 0, .int .i64 0, .int .i64 0, .int .i64 0, .int .i64 0, .int .i64 0, .int .i64 0, .int .i64 0, .int .i64 0, .int .i64 0]], []⟩).memory := laidMet_of_run' 8 (by kernel_rfl) (by kernel_rfl)
theorem reads (os : Os) {H : Type} (enc : TypeId × Value → H) : ∃ places, DataW.whole enc Try.prog ((laidWorld os).forCall (fun _ _ => 0) ⟨#[], #[.agg #[.int .i64 0, .int .i64 0, .int .i64 0, .int .i64 0, .int .i64 0, .int .i64 0, .int .i64 0, .int .i64 0, .int .i64 0, .int .i64 0, .int .i64 0, .int .i64 0, .int .i64 0, .int .i64 0, .int .i64 0, .int .i64 0], .int .i64 0, .agg #[.int .i64 0, .int .i64 0, .int .i64 0, .int .i64 0, .int .i64 0, .int .i64 0, .int .i64 0, .int .i64 0, .int .i64 0, .int .i64 0, .int .i64 0, .int .i64 0, .int .i64 0, .int .i64 0, .int .i64 0, .int .i64 0]], []⟩).memory Try.f3.params.toList Rows.fnExactChanceOfNextSpec.vars false #[.agg #[.int .i64 0, .int .i64 0, .int .i64 0, .int .i64 0, .int .i64 0, .int .i64 0, .int .i64 0, .int .i64 0, .int .i64 0, .int .i64 0, .int .i64 0, .int .i64 0, .int .i64 0, .int .i64 0, .int .i64 0, .int .i64 0], .int .i64 0, .agg #[.int .i64 0, .int .i64 0, .int .i64 0, .int .i64 0, .int .i64 0, .int .i64 0, .int .i64 0, .int .i64 0, .int .i64 0, .int .i64 0, .int .i64 0, .int .i64 0, .int .i64 0, .int .i64 0, .int .i64 0, .int .i64 0]].toList 8 = some ([.agg [.agg [.agg [.lit (.int .i64 0), .lit (.int .i64 0), .lit (.int .i64 0), .lit (.int .i64 0)], .agg [.lit (.int .i64 0), .lit (.int .i64 0), .lit (.int .i64 0), .lit (.int .i64 0)], .agg [.lit (.int .i64 0), .lit (.int .i64 0), .lit (.int .i64 0), .lit (.int .i64 0)], .agg [.lit (.int .i64 0), .lit (.int .i64 0), .lit (.int .i64 0), .lit (.int .i64 0)]]], .lit (.int .i64 0), .agg [.agg [.agg [.lit (.int .i64 0), .lit (.int .i64 0), .lit (.int .i64 0), .lit (.int .i64 0)], .agg [.lit (.int .i64 0), .lit (.int .i64 0), .lit (.int .i64 0), .lit (.int .i64 0)], .agg [.lit (.int .i64 0), .lit (.int .i64 0), .lit (.int .i64 0), .lit (.int .i64 0)], .agg [.lit (.int .i64 0), .lit (.int .i64 0), .lit (.int .i64 0), .lit (.int .i64 0)]]]], [], places) :=
  ⟨[], by kernel_rfl⟩
set_option linter.unusedVariables false in
set_option maxRecDepth 100000 in
theorem lifted (os : Os) (started : os.Started) (H : Type) (enc : TypeId × Value → H) (F : Stop.Interp) :
    ReturnsInHanded {} Try.checked os 3 .any ((OpenSpec.ofChange Rows.fnExactChanceOfNextSpec).preRow enc Try.prog Try.f3 Rows.fnExactChanceOfNextRow.domain false Rows.fnExactChanceOfNextRow.laid) (((OpenSpec.ofChange Rows.fnExactChanceOfNextSpec).at F).post enc Try.prog Try.f3 false true false false) := by
  obtain ⟨places, hx⟩ := reads os enc
  refine returnsInHanded_of_row (C := Try.checked) (s := (OpenSpec.ofChange Rows.fnExactChanceOfNextSpec)) own started (by kernel_rfl) Try.func3
    (witness_row_at (enc := enc) (C := Try.checked) false (laidWorld os) #[.agg #[.int .i64 0, .int .i64 0, .int .i64 0, .int .i64 0, .int .i64 0, .int .i64 0, .int .i64 0, .int .i64 0, .int .i64 0, .int .i64 0, .int .i64 0, .int .i64 0, .int .i64 0, .int .i64 0, .int .i64 0, .int .i64 0], .int .i64 0, .agg #[.int .i64 0, .int .i64 0, .int .i64 0, .int .i64 0, .int .i64 0, .int .i64 0, .int .i64 0, .int .i64 0, .int .i64 0, .int .i64 0, .int .i64 0, .int .i64 0, .int .i64 0, .int .i64 0, .int .i64 0, .int .i64 0]] rfl (by kernel_rfl) (by kernel_rfl) (by kernel_rfl)
      (OpenSpec.preRow_of_cond 8 hx (by kernel_rfl) (fun k hk => by cases hk) (by kernel_rfl) (laid_met os))) ?_
  intro W base args ds gs before hval0 hW _ hcond hsz hL hsh _
  have hval : ∀ (j : Nat) t v, Try.f3.params[j]? = some t → args[j]? = some v → Value.okWide Try.prog W .any base t v := hval0
  have hW' := hW
  obtain ⟨p, q, hA0, hV, rfl, hfz, hnd⟩ := hW
  have hA : DataW.TrodAll enc Try.prog W 0 (fun _ => true) true Try.f3.params.toList args.toList ds p := hA0
  rw [Try.params3] at hA hval
  obtain ⟨v0, vs0, d0, ds0, p0, q0, hargs, rfl, rfl, h0, r0⟩ := trodAll_cons hA
  obtain ⟨v1, vs1, d1, ds1, p1, q1, rfl, rfl, rfl, h1, r1⟩ := trodAll_cons r0
  obtain ⟨v2, vs2, d2, ds2, p2, q2, rfl, rfl, rfl, h2, r2⟩ := trodAll_cons r1
  obtain ⟨rfl, rfl, rfl⟩ := trodAll_nil r2
  obtain rfl : args = #[v0, v1, v2] := by cases args; simp_all
  obtain ⟨rfl, rfl⟩ := trodVars_none hV
  obtain ⟨a0, rfl, w0⟩ := open_board_at Try.underlying25 rfl rfl Try.underlying23 Try.underlying22 Try.underlying3 cellsK cellsG cellsR cellsI (hval 0 25 v0 rfl rfl) h0
  have k0 := h0
  have lt0 : ∀ x ∈ p0, x.block < W.heap.size := by obtain ⟨m, hm⟩ := k0; exact DataW.trod_lt m _ _ _ hm
  obtain ⟨a1, rfl, rfl, rfl, w1⟩ := open_int Try.underlying3 (hval 1 3 v1 rfl rfl) h1
  obtain ⟨a2, rfl, w2⟩ := open_board_at Try.underlying25 rfl rfl Try.underlying23 Try.underlying22 Try.underlying3 cellsK cellsG cellsR cellsI (hval 2 25 v2 rfl rfl) h2
  have k2 := h2
  have lt2 : ∀ x ∈ p2, x.block < W.heap.size := by obtain ⟨m, hm⟩ := k2; exact DataW.trod_lt m _ _ _ hm
  clear hA0 hval0
  have hwalk : Calls Try.prog 3 #[.agg (mk 16 a0), .int .i64 a1, .agg (mk 16 a2)] W fun e w' => e = .returned (.bool true) ∧ Below W.heap.size W w' := walk a0 w0 a1 w1 a2 w2 W hsh
  refine hwalk.mono fun e W' ⟨he, bel⟩ => ?_
  subst he
  exact ⟨_, rfl, _, _, _, [], _, [], hW', trodAll_mk1 (shut_bool Try.underlying4 _), (trodAll_cons_mk (Below.trod laidOut (by kernel_rfl) (of_decide_eq_true (by kernel_rfl)) k0 bel lt0) (trodAll_cons_mk (shut_int Try.underlying3 w1) (trodAll_cons_mk (Below.trod laidOut (by kernel_rfl) (of_decide_eq_true (by kernel_rfl)) k2 bel lt2) trodAll_mk0))), rfl, bel.frame _, fun h => by cases h⟩
theorem closed : joinedFacts Try.pinned.checked.prog 3 Try.f3 ((OpenSpec.ofChange Rows.fnExactChanceOfNextSpec)).bare Rows.fnExactChanceOfNextRow = true := by
  unfold joinedFacts
  repeat' with_reducible refine and_mk ?_ ?_
  case refine_1.refine_1.refine_1.refine_1.refine_1.refine_1.refine_2 => exact enters
  case refine_1.refine_1.refine_1.refine_1.refine_1.refine_2 => exact (show (Rows.fnExactChanceOfNextRow.lifted == Try.prog.liftsFinal) = true by rw [final_no]; rfl)
  case refine_1.refine_1.refine_1.refine_1.refine_2 => exact (show (Try.prog.make == some Rows.fnExactChanceOfNextRow.make) = true by rw [make_cut]; rfl)
  case refine_1.refine_1.refine_1.refine_1.refine_1.refine_1.refine_1.refine_1.refine_1.refine_1.refine_1.refine_1.refine_1.refine_1.refine_1.refine_1.refine_1.refine_1.refine_1.refine_1.refine_1.refine_1.refine_1.refine_1.refine_1.refine_1.refine_1.refine_1.refine_1.refine_1.refine_2 => exact laidOut
  case refine_1.refine_1.refine_1.refine_1.refine_1.refine_1.refine_1.refine_1.refine_1.refine_1.refine_1.refine_1.refine_1.refine_1.refine_1.refine_1.refine_1.refine_1.refine_1.refine_1.refine_1.refine_1.refine_1.refine_1.refine_1.refine_1.refine_1.refine_1.refine_1.refine_2 => exact maps_rowed
  case refine_1.refine_1.refine_1.refine_1.refine_1.refine_1.refine_1.refine_2 => exact stops_heard
  all_goals (as_aux_lemma => kernel_rfl)
theorem proved : Rows.FnExactChanceOfNextSaid :=
  OpenClaim.holds_of_cond 3 Try.f3 rfl rfl rfl rfl rfl rfl rfl ⟨rfl, rfl, rfl, rfl, rfl⟩ rfl rfl rfl rfl rfl (by kernel_rfl) Try.func3 closed
    (of_decide_eq_true (by kernel_rfl)) (by unfold Func.isWrapper; first | (rw [if_pos (by decide +kernel)]; kernel_rfl) | (rw [if_neg (by decide +kernel)]; exact ⟨rfl, rfl⟩))
    (fun os started H enc _ F => by rw [OpenClaim.pre_eq_preRow]; exact lifted os started H enc F)
#print axioms proved
end Go.Proofs.Ytkocfpldgjfpeaa.fnExactChanceOfNext
