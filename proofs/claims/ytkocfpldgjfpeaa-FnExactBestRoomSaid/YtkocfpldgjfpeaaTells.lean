/-
  What the program tells of a board: the chance to be one, to be over, of a tile, of a score, and the room; and the contract of its meanOfMove.
-/
import Derived.Test.YtkocfpldgjfpeaaMeanR
import Derived.Test.YtkocfpldgjfpeaaTellPlain
import Derived.Test.YtkocfpldgjfpeaaImplSlideBoard
import Derived.Test.YtkocfpldgjfpeaaImplWorst
import Derived.Test.YtkocfpldgjfpeaaPairs
import Derived.Test.YtkocfpldgjfpeaaCount
namespace Go.Proofs.Ytkocfpldgjfpeaa
open Go.RowKit Plain
attribute [local go_sem] store_new
set_option linter.unusedVariables false
set_option linter.unusedSimpArgs false
theorem fieldS1 (g : Nat → Int) (w : World) : (Instr.field 64 (.agg (mk 18 g)) 1).run Try.prog w = .ok (.int .i64 (g 16)) w := by kernel_rfl
def scK (h : Nat → Int) : Nat → Bool
  | 0 => false
  | k + 1 => scK h k || decide (0 < slideS h k 4)
theorem scK_two (h : Nat → Int) : scK h 2 = scoB h := by
  unfold scoB
  show ((false || decide (0 < slideS h 0 4)) || decide (0 < slideS h 1 4)) = _
  rw [Bool.false_or, Bool.decide_or]
theorem chanceIf_one (is : Bool) (w : World) : Calls Try.prog 83 #[.bool is] w fun e w' => e = .returned (.agg (mk 2 (fcF (oneN is, 1)))) ∧ Below w.heap.size w w' := chanceIf_any is w
theorem toBe_any (g h : Nat → Int) (w : World) : Calls Try.prog 45 #[.agg (mk 16 g), .agg (mk 16 h)] w fun e w' => e = .returned (.agg (mk 2 (fcF (uNext g h, 1)))) ∧ Below w.heap.size w w' := by
  have z2 := zero2
  have z16 := zero16
  have z18 := zero18
  have K1 := Blk.new w 16 (g) 29
  have K2 := Blk.new (w.alloc (.cells (mk 16 (g)) 29)) 16 (h) 29
  have K1 := K1.alloc (.cells (mk 16 (h)) 29)
  have K3 := Blk.new ((w.alloc (.cells (mk 16 (g)) 29)).alloc (.cells (mk 16 (h)) 29)) 2 (fun _ => 0) 53
  have K1 := K1.alloc (.cells (mk 2 (fun _ => 0)) 53)
  have K2 := K2.alloc (.cells (mk 2 (fun _ => 0)) 53)
  have HB := Lib.hid ((((Below.refl w.heap.size w).alloc (by simp) (.cells (mk 16 (g)) 29)).alloc (by simp) (.cells (mk 16 (h)) 29)).alloc (by simp; omega) (.cells (mk 2 (fun _ => 0)) 53))
  simp only [World.size_alloc] at K1 K2 K3 HB
  have iE : ∀ (w : World), (Op.equalIn 10000 29 (.agg (mk 16 g)) (.agg (mk 16 h))).run Try.prog w = .ok (sameB h g) w := fun w => by rw [eqB 9996, same_comm]
  show Calls _ _ _ _ fun e w' => e = .returned (.agg (mk 2 (fcF (oneN (sameB h g), 1)))) ∧ _
  generalize sameB h g = O at *
  go_enter Try.func45, Try.ntmps45
  go_wp2_with (first | ((with_reducible show wpList _ _ _ (Oper.mk _ (Op.load 29 _) _ _ _ _ :: _) _ _); refine loadB (K1) rfl rfl rfl ?_) | ((with_reducible show wpList _ _ _ (Oper.mk _ (Op.load 29 _) _ _ _ _ :: _) _ _); refine loadB (K2) rfl rfl rfl ?_))
  refine (chanceIf_one _ _).mono ?_
  rintro e w2 ⟨rfl, hb⟩
  have K3 := K3.below hb K3.lt
  have HB : Hid (Below w.heap.size w w2) := HB.out.trans (hb.mono HB.out.size)
  clear hb
  go_wp2_with ((with_reducible show wpList _ _ _ (Oper.mk _ (Op.store 53 _ _) _ _ _ _ :: _) _ _); refine storeF (K3) rfl rfl rfl rfl ?_)
  try simp only [Exit.inBlock, Exit.then]
  exact retcF (K3.row 2 _) rfl rfl rfl ⟨rfl, below_setRow HB.out (by omega) _⟩
theorem toBeOver_any (h : Nat → Int) (w : World) (hV : Vd h) : Calls Try.prog 47 #[.agg (mk 16 h)] w fun e w' => e = .returned (.agg (mk 2 (fcF (uOver h, 1)))) ∧ Below w.heap.size w w' := by
  have z2 := zero2
  have z16 := zero16
  have z18 := zero18
  have K1 := Blk.new w 16 (h) 29
  have K3 := Blk.new (w.alloc (.cells (mk 16 (h)) 29)) 2 (fun _ => 0) 53
  have K1 := K1.alloc (.cells (mk 2 (fun _ => 0)) 53)
  have HB := Lib.hid (((Below.refl w.heap.size w).alloc (by simp) (.cells (mk 16 (h)) 29)).alloc (by simp) (.cells (mk 2 (fun _ => 0)) 53))
  simp only [World.size_alloc] at K1 K3 HB
  have HC := Lib.hid (fun w => countMoves_any h w hV)
  show Calls _ _ _ _ fun e w' => e = .returned (.agg (mk 2 (fcF (oneN (noMvB h), 1)))) ∧ _
  have hO : (((movL h 4).length : Int) == 0) = noMvB h := by
    unfold noMvB
    rw [Bool.eq_iff_iff, beq_iff_eq, decide_eq_true_eq]; omega
  have HO := Lib.hid hO
  clear hO hV
  generalize noMvB h = O at *
  generalize ((movL h 4).length : Int) = L at *
  have hO := HO.out
  go_enter Try.func47, Try.ntmps47
  go_wp2_with ((with_reducible show wpList _ _ _ (Oper.mk _ (Op.load 29 _) _ _ _ _ :: _) _ _); refine loadB (K1) rfl rfl rfl ?_)
  refine (HC.out _).mono ?_
  rintro e w1 ⟨rfl, hb⟩
  have K3 := K3.below hb K3.lt
  have HB : Hid (Below w.heap.size w w1) := HB.out.trans (hb.mono HB.out.size)
  clear hb
  go_wp2_with fail
  refine (chanceIf_one _ _).mono ?_
  rintro e w2 ⟨rfl, hb⟩
  have K3 := K3.below hb K3.lt
  have HB : Hid (Below w.heap.size w w2) := HB.out.trans (hb.mono HB.out.size)
  clear hb
  go_wp2_with ((with_reducible show wpList _ _ _ (Oper.mk _ (Op.store 53 _ _) _ _ _ _ :: _) _ _); refine storeF (K3) rfl rfl rfl rfl ?_)
  try simp only [Exit.inBlock, Exit.then]
  exact retcF (K3.row 2 _) rfl rfl rfl ⟨rfl, below_setRow HB.out (by omega) _⟩
theorem room_any (h : Nat → Int) (w : World) (hV : Vd h) : Calls Try.prog 49 #[.agg (mk 16 h)] w fun e w' => e = .returned (.agg (mk 2 (fcF (uRoom h, 1)))) ∧ Below w.heap.size w w' := by
  have z2 := zero2
  have z16 := zero16
  have z18 := zero18
  have K1 := Blk.new w 16 (h) 29
  have K3 := Blk.new (w.alloc (.cells (mk 16 (h)) 29)) 2 (fun _ => 0) 53
  have K1 := K1.alloc (.cells (mk 2 (fun _ => 0)) 53)
  have HB := Lib.hid (((Below.refl w.heap.size w).alloc (by simp) (.cells (mk 16 (h)) 29)).alloc (by simp) (.cells (mk 2 (fun _ => 0)) 53))
  simp only [World.size_alloc] at K1 K3 HB
  have hp := pairs_bd h
  have hle := empN_le h 16
  have HU := Lib.hid (uRoom_int h)
  have HC := Lib.hid (implCount_any h)
  have HP := Lib.hid (implPairs_any h)
  have hc0 : cntR h 0 = (empN h 16 : Int) := by rw [cntR_yes hV]; exact cnt_emp9 h 16
  generalize uRoom h = U at *
  generalize pairsR h = P at *
  generalize empN h 16 = E at *
  clear hV
  go_enter Try.func49, Try.ntmps49
  go_wp2_with ((with_reducible show wpList _ _ _ (Oper.mk _ (Op.load 29 _) _ _ _ _ :: _) _ _); refine loadB (K1) rfl rfl rfl ?_)
  refine (HC.out _).mono ?_
  rintro e w1 ⟨rfl, hb⟩
  have K1 := (K1.below hb K1.lt).alloc (.cells (mk 18 (cntR h)) 93)
  have K3 := (K3.below hb K3.lt).alloc (.cells (mk 18 (cntR h)) 93)
  have K4 := Blk.new w1 18 (cntR h) 93
  have HB : Hid (Below w.heap.size w w1) := HB.out.trans (hb.mono HB.out.size)
  have HB : Hid (Below w.heap.size w (w1.alloc (.cells (mk 18 (cntR h)) 93))) := HB.out.alloc HB.out.size _
  clear hb
  go_wp2_with (first | ((with_reducible show wpList _ _ _ (Oper.mk _ (Op.load 29 _) _ _ _ _ :: _) _ _); refine loadB (K1) rfl rfl rfl ?_) | ((with_reducible show wpList _ _ _ (Oper.mk _ (Op.store 93 _ _) _ _ _ _ :: _) _ _); refine storeN (K4) rfl rfl rfl rfl ?_))
  refine (HP.out _).mono ?_
  rintro e w4 ⟨rfl, hb⟩
  have K3 := K3.below hb K3.lt
  have K4 := K4.below hb K4.lt
  have HB : Hid (Below w.heap.size w w4) := HB.out.trans (hb.mono HB.out.size)
  have c4 := K4.cell (i := 0) (by omega)
  rw [hc0] at c4
  clear hb
  go_wp2_with fail
  refine (whole_any _ U _ (by rw [HU.out]; omega)).mono ?_
  rintro e w2 ⟨rfl, hb⟩
  have K3 := K3.below hb K3.lt
  have HB : Hid (Below w.heap.size w w2) := HB.out.trans (hb.mono HB.out.size)
  clear hb
  go_wp2_with ((with_reducible show wpList _ _ _ (Oper.mk _ (Op.store 53 _ _) _ _ _ _ :: _) _ _); refine storeF (K3) rfl rfl rfl rfl ?_)
  try simp only [Exit.inBlock, Exit.then]
  exact retcF (K3.row 2 _) rfl rfl rfl ⟨rfl, below_setRow HB.out (by omega) _⟩
set_option maxHeartbeats 1000000 in
theorem toScore_any (h : Nat → Int) (w : World) (hV : Vd h) : Calls Try.prog 74 #[.agg (mk 16 h)] w fun e w' => e = .returned (.agg (mk 2 (fcF (uMerge h, 1)))) ∧ Below w.heap.size w w' := by
  have z2 := zero2
  have z16 := zero16
  have z18 := zero18
  have K1 := Blk.new w 16 (h) 29
  have K3 := Blk.new (w.alloc (.cells (mk 16 (h)) 29)) 2 (fun _ => 0) 53
  have K1 := K1.alloc (.cells (mk 2 (fun _ => 0)) 53)
  have HB := Lib.hid (((Below.refl w.heap.size w).alloc (by simp) (.cells (mk 16 (h)) 29)).alloc (by simp) (.cells (mk 2 (fun _ => 0)) 53))
  simp only [World.size_alloc] at K1 K3 HB
  show Calls _ _ _ _ fun e w' => e = .returned (.agg (mk 2 (fcF (oneN (scoB h), 1)))) ∧ _
  have HV := Lib.hid hV
  clear hV
  go_enter Try.func74, Try.ntmps74
  go_wp2_with fail
  go_loopg [3, 5] 2 (fun g s3 s5 wr => ∃ (k : Nat), k + g = 2 ∧ s5 = .int .i64 k ∧ s3 = .bool (scK h k) ∧ Blk wr w.heap.size 16 h 29 ∧ Blk wr (w.heap.size + 1) 2 (fun _ => 0) 53 ∧ Hid (Below w.heap.size w wr))
  case atStart => exact ⟨0, by omega, rfl, rfl, K1, K3, HB⟩
  case round =>
    obtain ⟨k, hkg, rfl, rfl, K1, K3, HB⟩ := hrel
    cases gk with
    | zero =>
      have hk : ¬ ((k : Int) < 2) := by omega
      obtain rfl : k = 2 := by omega
      clear hkg
      have HE : Hid (scK h 2 = scoB h) := scK_two h
      rw [HE.out]
      go_wp2_with fail
      refine (chanceIf_one _ _).mono ?_
      rintro e w2 ⟨rfl, hb⟩
      have K3 := K3.below hb K3.lt
      have HB : Hid (Below w.heap.size w w2) := HB.out.trans (hb.mono HB.out.size)
      clear hb
      go_wp2_with ((with_reducible show wpList _ _ _ (Oper.mk _ (Op.store 53 _ _) _ _ _ _ :: _) _ _); refine storeF (K3) rfl rfl rfl rfl ?_)
      try simp only [Exit.inBlock, Exit.then]
      exact retcF (K3.row 2 _) rfl rfl rfl ⟨rfl, below_setRow HB.out (by omega) _⟩
    | succ g =>
      have hk8 : (k : Int) < 2 := by omega
      have hk4 : (k : Int) ≤ 3 := by omega
      have hk0 : (0 : Int) ≤ (k : Int) := by omega
      have HK : Hid (scK h (k + 1) = (scK h k || decide (0 < slideS h k 4))) := rfl
      cases hO : scK h k with
      | true =>
        rw [hO] at HK
        clear hO
        have hx : scK h (k + 1) = true := by rw [HK.out]; rfl
        have HX := Lib.hid hx
        clear hx HK
        go_wp2_with fail
        go_roundg g
        case rel => exact ⟨k + 1, by omega, by go_num, by rw [HX.out], K1, K3, HB⟩
        case measure => omega
      | false =>
        rw [hO] at HK
        clear hO
        have HX : Hid (scK h (k + 1) = decide (slideS h k 4 > 0)) := by show _ = _; rw [HK.out]; rfl
        clear HK
        have iF := fieldS1
        have e16 : slideV h k 16 = slideS h k 4 := rfl
        go_wp2_with ((with_reducible show wpList _ _ _ (Oper.mk _ (Op.load 29 _) _ _ _ (some _) :: _) _ _); refine loadgB (K1) rfl rfl rfl ?_)
        refine (slideTo_nat h k _ HV.out hk0 hk4).mono ?_
        rintro e w2 ⟨rfl, hb⟩
        have K1 := K1.below hb K1.lt
        have K3 := K3.below hb K3.lt
        have HB : Hid (Below w.heap.size w w2) := HB.out.trans (hb.mono HB.out.size)
        clear hb
        go_wp2_with fail
        go_roundg g
        case rel => exact ⟨k + 1, by omega, by go_num, by rw [HX.out], K1, K3, HB⟩
        case measure => omega
set_option maxHeartbeats 1000000 in
theorem chanceIn_any (c : Nat → Int) (t : Int) (h : Nat → Int) (w : World) (hc : CellIn c) : Calls Try.prog 72 #[.agg (mk 3 (tri (c 0) (c 1) t)), .agg (mk 16 h)] w fun e w' => e = .returned (.agg (mk 2 (fcF (uTile c t h, 1)))) ∧ Below w.heap.size w w' := by
  have z2 := zero2
  have z16 := zero16
  have z18 := zero18
  have K1 := Blk.new w 3 (tri (c 0) (c 1) t) 79
  have K2 := Blk.new (w.alloc (.cells (mk 3 (tri (c 0) (c 1) t)) 79)) 16 (h) 29
  have K1 := K1.alloc (.cells (mk 16 (h)) 29)
  have K3 := Blk.new ((w.alloc (.cells (mk 3 (tri (c 0) (c 1) t)) 79)).alloc (.cells (mk 16 (h)) 29)) 2 (fun _ => 0) 53
  have K1 := K1.alloc (.cells (mk 2 (fun _ => 0)) 53)
  have K2 := K2.alloc (.cells (mk 2 (fun _ => 0)) 53)
  have HB := Lib.hid ((((Below.refl w.heap.size w).alloc (by simp) (.cells (mk 3 (tri (c 0) (c 1) t)) 79)).alloc (by simp) (.cells (mk 16 (h)) 29)).alloc (by simp; omega) (.cells (mk 2 (fun _ => 0)) 53))
  simp only [World.size_alloc] at K1 K2 K3 HB
  obtain ⟨⟨c00, c01⟩, c10, c11⟩ := hc
  obtain ⟨r, hr⟩ := Int.eq_ofNat_of_zero_le c00
  obtain ⟨q, hq⟩ := Int.eq_ofNat_of_zero_le c10
  have hpl : placeAt c = r * 4 + q := by unfold placeAt; rw [hr, hq]; omega
  show Calls _ _ _ _ fun e w' => e = .returned (.agg (mk 2 (fcF (oneN (decide (h (placeAt c) = t)), 1)))) ∧ _
  rw [hr] at K1 K2 K3 HB c01
  rw [hq] at K1 K2 K3 HB c11
  rw [hr, hq, hpl]
  have r4 : r < 4 := by omega
  have q4 : q < 4 := by omega
  have r40 : (0 : Int) ≤ (r : Int) := by omega
  have q40 : (0 : Int) ≤ (q : Int) := by omega
  have r44 : (r : Int) < 4 := by omega
  have q44 : (q : Int) < 4 := by omega
  clear hr hq hpl c00 c01 c10 c11
  have HEQ : Hid ((h (r * 4 + q) == t) = decide (h (r * 4 + q) = t)) := by show _ = _; rw [Bool.eq_iff_iff]; simp
  go_enter Try.func72, Try.ntmps72
  go_wp2_with fail
  generalize ((w.alloc (.cells (mk 3 (tri (r : Int) (q : Int) t)) 79)).alloc (.cells (mk 16 h) 29)).alloc (.cells (mk 2 fun _ => 0) 53) = w1 at *
  refine wp_region_held_drew (S := fun W => Blk W w.heap.size 3 (tri (r : Int) (q : Int) t) 79 ∧ Blk W (w.heap.size + 1) 16 h 29) (by kernel_rfl) (⟨K1.drew, K2.drew⟩) (fun hHeld => ?_)
  have K1 : Blk w1.drew w.heap.size 3 (tri (r : Int) (q : Int) t) 79 := K1.drew
  have K2 : Blk w1.drew (w.heap.size + 1) 16 h 29 := K2.drew
  have K3 : Blk w1.drew (w.heap.size + 1 + 1) 2 (fun _ => 0) 53 := K3.drew
  have HB : Hid (Below w.heap.size w w1.drew) := HB.out.drew
  generalize w1.drew = x0 at *
  refine wpAnyH_take (i := 0) (oi := { dst := some 5, op := _, type := _, pos := _, after := _, guard := _ }) (v := .pointer (some ⟨w.heap.size, 0, none⟩)) rfl (by kernel_rfl) (by kernel_rfl) (by kernel_rfl) (fun _ _ _ h => h) (Or.inl ⟨by rfl, by intro w hSw; clear hSw; go_simp; (try with_reducible rfl)⟩) (by assumption) ?_
  try simp only [Act.put, List.setIfInBounds_toArray, List.set_cons_zero, List.set_cons_succ]
  refine wpAnyH_take (i := 1) (oi := { dst := some 6, op := _, type := _, pos := _, after := _, guard := _ }) (v := .pointer (some ⟨w.heap.size, 0, none⟩)) rfl (by kernel_rfl) (by kernel_rfl) (by kernel_rfl) (fun _ _ _ h => h) (Or.inl ⟨by rfl, by intro w hSw; clear hSw; go_simp; (try with_reducible rfl)⟩) (by assumption) ?_
  try simp only [Act.put, List.setIfInBounds_toArray, List.set_cons_zero, List.set_cons_succ]
  refine wpAnyH_take (i := 2) (oi := { dst := some 7, op := _, type := _, pos := _, after := _, guard := _ }) (v := .int .i64 (r : Int)) rfl (by kernel_rfl) (by kernel_rfl) (by kernel_rfl) (fun _ _ _ h => h) (Or.inl ⟨by rfl, by intro W p; have c0 := p.1.cell (i := 0) (by omega); clear p; go_simp; (try rfl)⟩) (by assumption) ?_
  try simp only [Act.put, List.setIfInBounds_toArray, List.set_cons_zero, List.set_cons_succ]
  refine wpAnyH_take (i := 3) (oi := { dst := some 8, op := _, type := _, pos := _, after := _, guard := _ }) (v := .pointer (some ⟨w.heap.size, 0, none⟩)) rfl (by kernel_rfl) (by kernel_rfl) (by kernel_rfl) (fun _ _ _ h => h) (Or.inl ⟨by rfl, by intro w hSw; clear hSw; go_simp; (try with_reducible rfl)⟩) (by assumption) ?_
  try simp only [Act.put, List.setIfInBounds_toArray, List.set_cons_zero, List.set_cons_succ]
  refine wpAnyH_take (i := 4) (oi := { dst := some 9, op := _, type := _, pos := _, after := _, guard := _ }) (v := .pointer (some ⟨w.heap.size, 1, none⟩)) rfl (by kernel_rfl) (by kernel_rfl) (by kernel_rfl) (fun _ _ _ h => h) (Or.inl ⟨by rfl, by intro w hSw; clear hSw; go_simp; (try with_reducible rfl)⟩) (by assumption) ?_
  try simp only [Act.put, List.setIfInBounds_toArray, List.set_cons_zero, List.set_cons_succ]
  refine wpAnyH_take (i := 5) (oi := { dst := some 10, op := _, type := _, pos := _, after := _, guard := _ }) (v := .int .i64 (q : Int)) rfl (by kernel_rfl) (by kernel_rfl) (by kernel_rfl) (fun _ _ _ h => h) (Or.inl ⟨by rfl, by intro W p; have c0 := p.1.cell (i := 1) (by omega); clear p; go_simp; (try rfl)⟩) (by assumption) ?_
  try simp only [Act.put, List.setIfInBounds_toArray, List.set_cons_zero, List.set_cons_succ]
  refine wpAnyH_take (i := 6) (oi := { dst := some 11, op := _, type := _, pos := _, after := _, guard := _ }) (v := .pointer (some ⟨w.heap.size + 1, 0, none⟩)) rfl (by kernel_rfl) (by kernel_rfl) (by kernel_rfl) (fun _ _ _ h => h) (Or.inl ⟨by rfl, by intro w hSw; clear hSw; go_simp; (try with_reducible rfl)⟩) (by assumption) ?_
  try simp only [Act.put, List.setIfInBounds_toArray, List.set_cons_zero, List.set_cons_succ]
  refine wpAnyH_take (i := 7) (oi := { dst := some 12, op := _, type := _, pos := _, after := _, guard := _ }) (v := .pointer (some ⟨w.heap.size + 1, r * 4, none⟩)) rfl (by kernel_rfl) (by kernel_rfl) (by kernel_rfl) (fun _ _ _ h => h) (Or.inl ⟨by rfl, by intro w hSw; clear hSw; go_simp; (try with_reducible rfl)⟩) (by assumption) ?_
  try simp only [Act.put, List.setIfInBounds_toArray, List.set_cons_zero, List.set_cons_succ]
  refine wpAnyH_take (i := 8) (oi := { dst := some 13, op := _, type := _, pos := _, after := _, guard := _ }) (v := .pointer (some ⟨w.heap.size + 1, r * 4 + q, none⟩)) rfl (by kernel_rfl) (by kernel_rfl) (by kernel_rfl) (fun _ _ _ h => h) (Or.inl ⟨by rfl, by intro w hSw; clear hSw; go_simp; (try with_reducible rfl)⟩) (by assumption) ?_
  try simp only [Act.put, List.setIfInBounds_toArray, List.set_cons_zero, List.set_cons_succ]
  refine wpAnyH_take (i := 9) (oi := { dst := some 14, op := _, type := _, pos := _, after := _, guard := _ }) (v := .int .i64 (h (r * 4 + q))) rfl (by kernel_rfl) (by kernel_rfl) (by kernel_rfl) (fun _ _ _ h => h) (Or.inl ⟨by rfl, by intro W p; have c0 := p.2.cell (i := r * 4 + q) (by omega); clear p; go_simp; (try rfl)⟩) (by assumption) ?_
  try simp only [Act.put, List.setIfInBounds_toArray, List.set_cons_zero, List.set_cons_succ]
  refine wpAnyH_take (i := 10) (oi := { dst := some 15, op := _, type := _, pos := _, after := _, guard := _ }) (v := .pointer (some ⟨w.heap.size, 2, none⟩)) rfl (by kernel_rfl) (by kernel_rfl) (by kernel_rfl) (fun _ _ _ h => h) (Or.inl ⟨by rfl, by intro w hSw; clear hSw; go_simp; (try with_reducible rfl)⟩) (by assumption) ?_
  try simp only [Act.put, List.setIfInBounds_toArray, List.set_cons_zero, List.set_cons_succ]
  refine wpAnyH_take (i := 11) (oi := { dst := some 16, op := _, type := _, pos := _, after := _, guard := _ }) (v := .int .i64 t) rfl (by kernel_rfl) (by kernel_rfl) (by kernel_rfl) (fun _ _ _ h => h) (Or.inl ⟨by rfl, by intro W p; have c0 := p.1.cell (i := 2) (by omega); clear p; go_simp; (try rfl)⟩) (by assumption) ?_
  try simp only [Act.put, List.setIfInBounds_toArray, List.set_cons_zero, List.set_cons_succ]
  refine wpAnyH_take (i := 12) (oi := { dst := some 17, op := _, type := _, pos := _, after := _, guard := _ }) (v := .bool (h (r * 4 + q) == t)) rfl (by kernel_rfl) (by kernel_rfl) (by kernel_rfl) (fun _ _ _ h => h) (Or.inl ⟨by rfl, by intro w hSw; clear hSw; go_simp; (try with_reducible rfl)⟩) (by assumption) ?_
  try simp only [Act.put, List.setIfInBounds_toArray, List.set_cons_zero, List.set_cons_succ]
  refine wpAnyH_ready (rs := [13]) (by kernel_rfl) (by simp) ?_
  refine AllReadyH.cons rfl (fun K hK => ?_) AllReadyH.nil
  rw [HEQ.out]
  go_simp
  refine (chanceIf_one _ _).mono ?_
  rintro e x1 ⟨rfl, hb⟩
  have K1 := K1.below hb K1.lt
  have K2 := K2.below hb K2.lt
  have K3 := K3.below hb K3.lt
  have HB : Hid (Below w.heap.size w x1) := HB.out.trans (hb.mono HB.out.size)
  clear hb hHeld
  go_wp2_with fail
  refine hK.out _ _ ⟨K1, K2⟩ (fun hHeld => ?_)
  clear hK K
  try simp only [Act.put, List.setIfInBounds_toArray, List.set_cons_zero, List.set_cons_succ]
  refine wpAnyH_ready (rs := [14]) (by kernel_rfl) (by simp) ?_
  refine AllReadyH.cons rfl (fun K hK => ?_) AllReadyH.nil
  have st1 := run_store_blk (P := Try.prog) (g := fcF (oneN (decide (h (r * 4 + q) = t)), 1)) K3
  have ms1 : (mk 2 (fcF (oneN (decide (h (r * 4 + q) = t)), 1))).size = 2 := mk_size 2 _
  go_simp
  clear st1 ms1 hHeld
  have g1 := grown_rowP K3 (mk 2 (fcF (oneN (decide (h (r * 4 + q) = t)), 1)))
  have K1 := K1.grown g1 (sne (by omega))
  have K2 := K2.grown g1 (sne (by omega))
  have HB : Hid (Below w.heap.size w (x1.setRow (w.heap.size + 1 + 1) (mk 2 (fcF (oneN (decide (h (r * 4 + q) = t)), 1))))) := below_setRow HB.out (by omega) _
  have K3 := K3.row 2 (fcF (oneN (decide (h (r * 4 + q) = t)), 1))
  clear g1
  generalize x1.setRow (w.heap.size + 1 + 1) (mk 2 (fcF (oneN (decide (h (r * 4 + q) = t)), 1))) = x2 at *
  refine hK.out _ _ ⟨K1, K2⟩ (fun hHeld => ?_)
  clear hK K
  try simp only [Act.put, List.setIfInBounds_toArray, List.set_cons_zero, List.set_cons_succ]
  refine wpAnyH_done (by kernel_rfl) ?_ _
  clear hHeld
  go_wp2_with fail
  try simp only [Exit.inBlock, Exit.then]
  exact retcF K3 rfl rfl rfl ⟨rfl, HB.out⟩
set_option maxHeartbeats 1000000 in
theorem meanOfMove_any (f : Nat → Int) (d : Int) (T : (Nat → Int) → Fc) (M : Nat) (cf : Nat) (pre lb : Array Value) (w : World) (hD : ∀ S, Vd S → Den 1 M T S)
    (eg : ∀ args w, (callFunc cf args).run Try.prog w = .ok (.enter cf args) w)
    (HC : ∀ (h : Nat → Int) (W : World), Vd h → Calls Try.prog cf (pre ++ #[.agg (mk 16 h)] ++ lb) W fun e w' => e = .returned (.agg (mk 2 (fcF (T h)))) ∧ Below W.heap.size W w') :
    Calls Try.prog 44 #[.agg (mk 16 f), .int .i64 d, .func (.func cf) pre lb] w fun e w' => e = .returned (.tuple #[.agg (mk 2 (fcF (mmF T f d))), .bool (decide (MvOk f d))]) ∧ Below w.heap.size w w' := by
  have z2 := zero2
  have z16 := zero16
  have z18 := zero18
  have K1 := Blk.new w 16 (f) 29
  have K3 := Blk.new (w.alloc (.cells (mk 16 (f)) 29)) 2 (fun _ => 0) 53
  have K1 := K1.alloc (.cells (mk 2 (fun _ => 0)) 53)
  have HB := Lib.hid (((Below.refl w.heap.size w).alloc (by simp) (.cells (mk 16 (f)) 29)).alloc (by simp) (.cells (mk 2 (fun _ => 0)) 53))
  simp only [World.size_alloc] at K1 K3 HB
  have iE : ∀ (f g : Nat → Int) (w : World), (Op.equalIn 10000 29 (.agg (mk 16 f)) (.agg (mk 16 g))).run Try.prog w = .ok (sameB f g) w := eqB 9996
  have hfz : mk 2 (fcF (0, 0)) = mk 2 fun _ => 0 := rfl
  have HI := Lib.hid (implSlide_any f d)
  by_cases hS : SlideOk f d
  · obtain ⟨y1, y2, y3, _⟩ := slide_yes hS
    rw [y1, y2, y3] at HI
    clear y1 y2 y3
    by_cases hm : isMv f d.toNat = true
    · have hMv : MvOk f d := ⟨hS, hm⟩
      rw [mm_yes hMv, decide_eq_true hMv]
      have HB2 := Lib.hid (fun W (hb : Below w.heap.size w W) => meanBehind_any (slideB f d.toNat) T 1 M cf pre lb W (slideB_vd hS.1 _) (hD _ (slideB_vd hS.1 _)) (mv_room hS.1 hm) eg (fun p W' hp _ => HC _ W' (plB_vd (slideB_vd hS.1 _) hp)))
      have hq : sameB (slideB f d.toNat) f = false := mv_same hm
      clear hMv hm hS hD HC hfz
      generalize mnF T (slideB f d.toNat) = R at *
      generalize slideB f d.toNat = S at *
      generalize slideS f d.toNat 4 = sc at *
      go_enter Try.func44, Try.ntmps44
      go_wp2_with ((with_reducible show wpList _ _ _ (Oper.mk _ (Op.load 29 _) _ _ _ _ :: _) _ _); refine loadB (K1) rfl rfl rfl ?_)
      refine (HI.out _).mono ?_
      rintro e w1 ⟨rfl, hb⟩
      have K1 := (K1.below hb K1.lt).alloc (.cells (mk 16 (S)) 29)
      have K3 := (K3.below hb K3.lt).alloc (.cells (mk 16 (S)) 29)
      have K4 := Blk.new w1 16 (S) 29
      have HB : Hid (Below w.heap.size w w1) := HB.out.trans (hb.mono HB.out.size)
      have HB : Hid (Below w.heap.size w (w1.alloc (.cells (mk 16 (S)) 29))) := HB.out.alloc HB.out.size _
      clear hb
      go_wp2_with (first | ((with_reducible show wpList _ _ _ (Oper.mk _ (Op.load 29 _) _ _ _ (some _) :: _) _ _); refine loadgB (K1) rfl rfl rfl ?_) | ((with_reducible show wpList _ _ _ (Oper.mk _ (Op.load 29 _) _ _ _ (some _) :: _) _ _); refine loadgB (K4) rfl rfl rfl ?_))
      go_wp2_with (first | ((with_reducible show wpList _ _ _ (Oper.mk _ (Op.load 29 _) _ _ _ _ :: _) _ _); refine loadB (K4) rfl rfl rfl ?_))
      refine (HB2.out _ HB.out).mono ?_
      rintro e w2 ⟨rfl, hb⟩
      have K3 := K3.below hb K3.lt
      have HB : Hid (Below w.heap.size w w2) := HB.out.trans (hb.mono HB.out.size)
      clear hb
      go_wp2_with ((with_reducible show wpList _ _ _ (Oper.mk _ (Op.store 53 _ _) _ _ _ _ :: _) _ _); refine storeF (K3) rfl rfl rfl rfl ?_)
      try simp only [Exit.inBlock, Exit.then]
      exact retctF (K3.row 2 _) rfl rfl rfl ⟨rfl, below_setRow HB.out (by omega) _⟩
    · have hMv : ¬ MvOk f d := fun h => hm h.2
      rw [mm_no hMv, decide_eq_false hMv]
      have hm2 : isMv f d.toNat = false := by simpa using hm
      have hq : sameB (slideB f d.toNat) f = true := by unfold isMv at hm2; simpa using hm2
      rw [hfz]
      clear hMv hm hm2 hS hD HC hfz
      generalize slideB f d.toNat = S at *
      generalize slideS f d.toNat 4 = sc at *
      go_enter Try.func44, Try.ntmps44
      go_wp2_with ((with_reducible show wpList _ _ _ (Oper.mk _ (Op.load 29 _) _ _ _ _ :: _) _ _); refine loadB (K1) rfl rfl rfl ?_)
      refine (HI.out _).mono ?_
      rintro e w1 ⟨rfl, hb⟩
      have K1 := (K1.below hb K1.lt).alloc (.cells (mk 16 (S)) 29)
      have K3 := (K3.below hb K3.lt).alloc (.cells (mk 16 (S)) 29)
      have K4 := Blk.new w1 16 (S) 29
      have HB : Hid (Below w.heap.size w w1) := HB.out.trans (hb.mono HB.out.size)
      have HB : Hid (Below w.heap.size w (w1.alloc (.cells (mk 16 (S)) 29))) := HB.out.alloc HB.out.size _
      clear hb
      go_wp2_with (first | ((with_reducible show wpList _ _ _ (Oper.mk _ (Op.load 29 _) _ _ _ (some _) :: _) _ _); refine loadgB (K1) rfl rfl rfl ?_) | ((with_reducible show wpList _ _ _ (Oper.mk _ (Op.load 29 _) _ _ _ (some _) :: _) _ _); refine loadgB (K4) rfl rfl rfl ?_) | ((with_reducible show wpList _ _ _ (Oper.mk _ (Op.store 53 _ _) _ _ _ _ :: _) _ _); refine storeF (K3) rfl rfl rfl rfl ?_))
      try simp only [Exit.inBlock, Exit.then]
      exact retctF (K3.row 2 _) rfl rfl rfl ⟨rfl, below_setRow HB.out (by omega) _⟩
  · obtain ⟨y1, y2, y3, _⟩ := slide_no hS
    rw [y1, y2, y3] at HI
    have hMv : ¬ MvOk f d := fun h => hS h.1
    rw [mm_no hMv, decide_eq_false hMv, hfz]
    clear y1 y2 y3 hMv hD HC hS hfz
    go_enter Try.func44, Try.ntmps44
    go_wp2_with ((with_reducible show wpList _ _ _ (Oper.mk _ (Op.load 29 _) _ _ _ _ :: _) _ _); refine loadB (K1) rfl rfl rfl ?_)
    refine (HI.out _).mono ?_
    rintro e w1 ⟨rfl, hb⟩
    have K1 := (K1.below hb K1.lt).alloc (.cells (mk 16 (fun _ => 0)) 29)
    have K3 := (K3.below hb K3.lt).alloc (.cells (mk 16 (fun _ => 0)) 29)
    have K4 := Blk.new w1 16 (fun _ => 0) 29
    have HB : Hid (Below w.heap.size w w1) := HB.out.trans (hb.mono HB.out.size)
    have HB : Hid (Below w.heap.size w (w1.alloc (.cells (mk 16 (fun _ => 0)) 29))) := HB.out.alloc HB.out.size _
    clear hb
    go_wp2_with (first | ((with_reducible show wpList _ _ _ (Oper.mk _ (Op.load 29 _) _ _ _ (some _) :: _) _ _); refine loadgB (K1) rfl rfl rfl ?_) | ((with_reducible show wpList _ _ _ (Oper.mk _ (Op.load 29 _) _ _ _ (some _) :: _) _ _); refine loadgB (K4) rfl rfl rfl ?_) | ((with_reducible show wpList _ _ _ (Oper.mk _ (Op.store 53 _ _) _ _ _ _ :: _) _ _); refine storeF (K3) rfl rfl rfl rfl ?_))
    try simp only [Exit.inBlock, Exit.then]
    exact retctF (K3.row 2 _) rfl rfl rfl ⟨rfl, below_setRow HB.out (by omega) _⟩
end Go.Proofs.Ytkocfpldgjfpeaa
