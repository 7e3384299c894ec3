/-
  The contract of SnakeBoard in the program, for every board and every number.
-/
import Derived.Test.YtmcmpedmgibmkabFallCells
import Derived.Test.YtmcmpedmgibmkabSnakeBd
import Derived.Test.YtmcmpedmgibmkabSnakesOf
namespace Go.Proofs.Ytmcmpedmgibmkab
open Go.RowKit Plain
open Go.Sort hiding Below
attribute [local go_sem] store_new
set_option linter.unusedVariables false
set_option linter.unusedSimpArgs false
theorem ext_map (f : Nat → Int) (d : Array (Fin 16)) (hd : d.size = 16) : (d.extract 0 16).toList.map (fun p => f p.1) = (List.range 16).map fun i => f (d[i]!.1) := by
  apply List.ext_getElem
  · simp [hd]
  · intro i h1 h2
    have hi : i < 16 := by simpa using h2
    rw [List.getElem_map, List.getElem_map, List.getElem_range, getElem!_pos d i (by omega)]
    simp
/-- The numbers at the places in order. -/
noncomputable def sqL (f : Nat → Int) (k : Nat) : List Int := (List.range 16).map fun i => f ((fsD f (dpF k))[i]!.1)
theorem sq_perm {k : Nat} (hk : k < 8) (f : Nat → Int) : (sqL f k).Perm (bdL f) := by
  have h := ((fs_holds f (dpF k) (dp_size k)).1.2.2).map (fun p => f p.1)
  rw [ext_map f _ (fs_size f _ (dp_size k)), ext_map f _ (dp_size k)] at h
  refine h.trans ?_
  have e : ((List.range 16).map fun i => f ((dpF k)[i]!.1)) = (List.range 16).map fun i => f (plP k i) := List.map_congr_left fun i hi => by rw [dp_at hk (List.mem_range.1 hi)]
  rw [e]
  exact pl_bd hk f
theorem sq_sorted (f : Nat → Int) (k : Nat) : (sqL f k).Pairwise (fun a b => b ≤ a) := by
  unfold sqL
  refine List.pairwise_iff_getElem.2 fun i j hi hj hij => ?_
  have hj2 : j < 16 := by simpa using hj
  have h := (fs_holds f (dpF k) (dp_size k)).2 i j (Nat.zero_le _) hij hj2
  rw [lt_cf, decide_eq_false_iff_not] at h
  rw [List.getElem_map, List.getElem_map, List.getElem_range, List.getElem_range]
  omega
theorem sq_xs {f : Nat → Int} (hf : Vd f) {k : Nat} (hk : k < 8) : sqL f k = xsL f :=
  List.Perm.eq_of_pairwise (fun a b _ _ h1 h2 => Int.le_antisymm h2 h1) (sq_sorted f k) (xs_sorted f) ((sq_perm hk f).trans (xs_perm hf).symm)
theorem xs_at {f : Nat → Int} (hf : Vd f) {k : Nat} (hk : k < 8) (i : Nat) (hi : i < 16) : (xsL f).getD i 0 = f ((fsD f (dpF k))[i]!.1) := by
  rw [← sq_xs hf hk]
  unfold sqL
  rw [List.getD_eq_getElem?_getD, List.getElem?_map, List.getElem?_range hi]
  rfl
set_option maxHeartbeats 4000000 in
set_option maxRecDepth 20000 in
theorem implSbd_any (f : Nat → Int) (k : Int) (w : World) :
    Calls Try.prog 17 #[.agg (mk 16 f), .int .i64 k] w fun e w' => e = .returned (.tuple #[.agg (mk 16 (sbdR f k)), .bool (sbdO f k)]) ∧ Below w.heap.size w w' := by
  have z16 := zero16
  have z32 := zero32
  have z2 := zero2
  have K2 := (Blk.new w 16 f 35).alloc (.cells (mk 16 fun _ => 0) 35)
  have K4 := Blk.new (w.alloc (.cells (mk 16 f) 35)) 16 (fun _ => 0) 35
  simp only [World.size_alloc] at K4
  have HB := Lib.hid (((Below.refl w.heap.size w).alloc (Nat.le_refl _) (.cells (mk 16 f) 35)).alloc (by simp) (.cells (mk 16 fun _ => 0) 35))
  by_cases hV : Vd f
  · have HV := Lib.hid (fun w => implBoard_yes f w hV)
    by_cases hk : 0 ≤ k ∧ k ≤ 7
    · have hS : SbdOk f k := ⟨hV, hk⟩
      rw [(sbd_yes hS).1, (sbd_yes hS).2]
      obtain ⟨k, rfl⟩ := Int.eq_ofNat_of_zero_le hk.1
      rw [Int.toNat_natCast]
      have HF := Lib.hid (fun w => isFormS_yes (k : Int) w hk.1 hk.2)
      have hk8 : k < 8 := by omega
      have HP := Lib.hid (fun w => snakePath_any k w hk8)
      have HPL := Lib.hid (fun n (hn : n < 16) => plP_lt hk8 hn)
      have HDF := Lib.hid (fun j hj => dp_flat (k := k) hk8 j hj)
      have HFA := Lib.hid (fun bp w R => falling_any f (dpF k) bp w R (dp_size k))
      have HXG := Lib.hid (fun i hi => xs_at hV hk8 i hi)
      clear hS hk hV hk8
      generalize fsD f (dpF k) = D at *
      generalize xsL f = X at *
      go_enter Try.func17, Try.ntmps17
      go_wp2_with ((with_reducible show wpList _ _ _ (Oper.mk _ (Op.load 35 _) _ _ _ _ :: _) _ _); refine loadB (K2) rfl rfl rfl ?_)
      refine (HV.out _).mono ?_
      rintro e w1 ⟨rfl, hb⟩
      have K2 := K2.below hb K2.lt
      have K4 := K4.below hb K4.lt
      have HB : Hid (Below w.heap.size w w1) := HB.out.trans (hb.mono HB.out.size)
      clear hb HV
      go_wp2_with fail
      refine (HF.out _).mono ?_
      rintro e w' ⟨rfl, rfl⟩
      go_wp2_with fail
      refine (HP.out _).mono ?_
      rintro e w2 ⟨rfl, hb⟩
      have K2 := K2.below hb K2.lt
      have K4 := K4.below hb K4.lt
      have HN : Hid (w.heap.size + 1 < w2.heap.size) := K4.lt
      have K2 := (K2.alloc (.cells (mk 32 (spF k)) 23)).alloc (.cells (mk 16 fun _ => 0) 35)
      have K4 := (K4.alloc (.cells (mk 32 (spF k)) 23)).alloc (.cells (mk 16 fun _ => 0) 35)
      have K6 := (Blk.new w2 32 (spF k) 23).alloc (.cells (mk 16 fun _ => 0) 35)
      have K7 := Blk.new (w2.alloc (.cells (mk 32 (spF k)) 23)) 16 (fun _ => 0) 35
      simp only [World.size_alloc] at K7
      have HB := HB.out.trans (hb.mono HB.out.size)
      have HB := HB.alloc HB.size (.cells (mk 32 (spF k)) 23)
      have HB : Hid (Below w.heap.size w ((w2.alloc (.cells (mk 32 (spF k)) 23)).alloc (.cells (mk 16 fun _ => 0) 35))) := HB.alloc HB.size _
      clear hb HP
      go_wp2_with fail
      generalize (w2.alloc (.cells (mk 32 (spF k)) 23)).alloc (.cells (mk 16 fun _ => 0) 35) = w3 at *
      generalize w2.heap.size = b6 at *
      refine wp_region_held_drew (S := fun W => Blk W w.heap.size 16 f 35 ∧ Blk W b6 32 (spF k) 23) (by kernel_rfl) (⟨K2.drew, K6.drew⟩) (fun hHeld => ?_)
      have K2 := K2.drew
      have K4 := K4.drew
      have K6 := K6.drew
      have K7 := K7.drew
      have HB : Hid (Below w.heap.size w w3.drew) := HB.out.drew
      generalize w3.drew = x0 at *
      refine wpAnyH_take (i := 0) (oi := { dst := some 23, op := _, type := _, pos := _, after := _, guard := _ }) (v := .agg (mk 16 f)) rfl (by kernel_rfl) (by kernel_rfl) (by kernel_rfl) (fun _ _ _ h => h) (Or.inl ⟨by rfl, fun _ q => execB q.1 rfl rfl⟩) (by assumption) ?_
      try simp only [Act.put, List.setIfInBounds_toArray, List.set_cons_zero, List.set_cons_succ]
      refine wpAnyH_take (i := 1) (oi := { dst := some 24, op := _, type := _, pos := _, after := _, guard := _ }) (v := .slice (some ⟨b6, 0, none⟩) 16 16) rfl (by kernel_rfl) (by kernel_rfl) (by kernel_rfl) (fun _ _ _ h => h) (Or.inl ⟨by rfl, by intro w hSw; clear hSw; go_simp; (try with_reducible rfl)⟩) (by assumption) ?_
      try simp only [Act.put, List.setIfInBounds_toArray, List.set_cons_zero, List.set_cons_succ]
      refine wpAnyH_take (i := 3) (oi := { dst := some 26, op := _, type := _, pos := _, after := _, guard := _ }) (v := .int .i64 0) rfl (by kernel_rfl) (by kernel_rfl) (by kernel_rfl) (fun _ _ _ h => h) (Or.inl ⟨by rfl, by intro w hSw; clear hSw; go_simp; (try with_reducible rfl)⟩) (by assumption) ?_
      try simp only [Act.put, List.setIfInBounds_toArray, List.set_cons_zero, List.set_cons_succ]
      refine wpAnyH_ready (rs := [2]) (by kernel_rfl) (by simp) ?_
      refine AllReadyH.cons rfl (fun K hK => ?_) AllReadyH.nil
      go_simp
      refine (HFA.out b6 _ ((K6.congr (fun j hj => (HDF.out j hj).symm)).at)).mono ?_
      rintro e w5 ⟨rfl, hb⟩
      have K2 := K2.below hb K2.lt
      have K4 := K4.below hb K4.lt
      have K6 := K6.below hb K6.lt
      have K7 := K7.below hb K7.lt
      have HB : Hid (Below w.heap.size w w5) := HB.out.trans (hb.mono HB.out.size)
      clear hb hHeld HFA HDF
      go_wp2_with fail
      refine hK.out _ _ ⟨K2, K6⟩ (fun hHeld => ?_)
      clear hK K
      try simp only [Act.put, List.setIfInBounds_toArray, List.set_cons_zero, List.set_cons_succ]
      refine wpAnyH_done (by kernel_rfl) ?_ _
      clear hHeld
      go_wp2_with fail
      go_loopg [26] 16 (fun g s26 wr => ∃ i : Nat, i + g = 16 ∧ s26 = .int .i64 i ∧ Blk wr (b6 + 1) 16 (ouF k X i) 35 ∧ Blk wr b6 32 (spF k) 23 ∧ Blk wr w.heap.size 16 f 35 ∧ Blk wr (w.heap.size + 1) 16 (fun _ => 0) 35 ∧ Hid (Below w.heap.size w wr))
      case atStart => exact ⟨0, by omega, rfl, K7, K6, K2, K4, HB⟩
      case round =>
        clear K2 K4 K6 K7 HB
        obtain ⟨i, hig, rfl, K7, K6, K2, K4, HB⟩ := hrel
        cases gk with
        | zero =>
          have hd : ¬ ((i : Int) < 16) := by omega
          obtain rfl : i = 16 := by omega
          clear hig
          go_wp2_with (first | ((with_reducible show wpList _ _ _ (Oper.mk _ (Op.load 35 _) _ _ _ _ :: _) _ _); refine loadB (K7) rfl rfl rfl ?_) | ((with_reducible show wpList _ _ _ (Oper.mk _ (Op.store 35 _ _) _ _ _ _ :: _) _ _); refine storeB (K4) rfl rfl rfl rfl ?_))
          try simp only [Act.put, List.setIfInBounds_toArray, List.set_cons_zero, List.set_cons_succ]
          try simp only [Exit.inBlock, Exit.then]
          exact retctB (K4.row 16 _) rfl rfl rfl ⟨rfl, below_setRow HB.out (by omega) _⟩
        | succ g =>
          have hd : (i : Int) < 16 := by omega
          have hi0 : (0 : Int) ≤ (i : Int) := by omega
          have hpl := HPL.out i (by omega)
          obtain ⟨R, hR⟩ : ∃ R, R = plP k i / 4 := ⟨_, rfl⟩
          obtain ⟨C, hC⟩ : ∃ C, C = plP k i % 4 := ⟨_, rfl⟩
          obtain ⟨U, hU⟩ : ∃ U, U = D[i]!.1 / 4 := ⟨_, rfl⟩
          obtain ⟨V, hV⟩ : ∃ V, V = D[i]!.1 % 4 := ⟨_, rfl⟩
          have hdl : D[i]!.1 < 16 := D[i]!.2
          have iX : ∀ W, (Instr.index 23 (.agg (mk 32 (flP D))) (.int .i64 (i : Int))).run Try.prog W = .ok (.agg (mk 2 (two (U : Int) (V : Int)))) W := fun W => by
            rw [idxP (flP D) i (by omega) W]
            congr 2
            exact mk_congr fun c hc => by
              rcases (by omega : c = 0 ∨ c = 1) with rfl | rfl
              · show flP D (i * 2) = (U : Int)
                unfold flP; rw [if_pos (by omega), show i * 2 / 2 = i by omega, hU]
              · show flP D (i * 2 + 1) = (V : Int)
                unfold flP; rw [if_neg (by omega), show (i * 2 + 1) / 2 = i by omega, hV]
          have HPP : Hid (mk 2 (fun c => spF k (i * 2 + c)) = mk 2 (two (R : Int) (C : Int))) := mk_congr fun c hc => by
            rcases (by omega : c = 0 ∨ c = 1) with rfl | rfl
            · rw [hR]; exact sp_row k i
            · rw [hC]; exact sp_col k i
          have HU : Hid (upd (ouF k X i) (R * 4 + C) (f (U * 4 + V)) = ouF k X (i + 1)) := by
            show _ = _
            rw [show R * 4 + C = plP k i by omega, show U * 4 + V = D[i]!.1 by omega, ← HXG.out i (by omega)]
            rfl
          have hR4 : (R : Int) < 4 := by omega
          have hC4 : (C : Int) < 4 := by omega
          have hU4 : (U : Int) < 4 := by omega
          have hV4 : (V : Int) < 4 := by omega
          have hR0 : (0 : Int) ≤ (R : Int) := by omega
          have hC0 : (0 : Int) ≤ (C : Int) := by omega
          have hU0 : (0 : Int) ≤ (U : Int) := by omega
          have hV0 : (0 : Int) ≤ (V : Int) := by omega
          clear hR hC hU hV hdl hpl
          generalize ouF k X i = F at *
          have HW : Hid (w.heap.size + 1 < wr.heap.size ∧ b6 + 1 < wr.heap.size) := ⟨K4.lt, K7.lt⟩
          have K6a := K6.alloc (.cells (mk 2 (two (U : Int) (V : Int))) 22)
          go_wp2_with ((with_reducible show wpList _ _ _ (Oper.mk _ (Op.load 22 _) _ _ _ _ :: _) _ _); refine loadPC K6a (by omega) rfl rfl rfl ?_; rw [HPP.out])
          clear iX K6a
          have K9 := (Blk.new wr 2 (two (U : Int) (V : Int)) 22).alloc (.cells (mk 2 (two (R : Int) (C : Int))) 22)
          have K10 := Blk.new (wr.alloc (.cells (mk 2 (two (U : Int) (V : Int))) 22)) 2 (two (R : Int) (C : Int)) 22
          simp only [World.size_alloc] at K10
          have K2 := (K2.alloc (.cells (mk 2 (two (U : Int) (V : Int))) 22)).alloc (.cells (mk 2 (two (R : Int) (C : Int))) 22)
          have K4 := (K4.alloc (.cells (mk 2 (two (U : Int) (V : Int))) 22)).alloc (.cells (mk 2 (two (R : Int) (C : Int))) 22)
          have K6 := (K6.alloc (.cells (mk 2 (two (U : Int) (V : Int))) 22)).alloc (.cells (mk 2 (two (R : Int) (C : Int))) 22)
          have K7 := (K7.alloc (.cells (mk 2 (two (U : Int) (V : Int))) 22)).alloc (.cells (mk 2 (two (R : Int) (C : Int))) 22)
          have HB := HB.out.alloc HB.out.size (.cells (mk 2 (two (U : Int) (V : Int))) 22)
          have HB : Hid (Below w.heap.size w ((wr.alloc (.cells (mk 2 (two (U : Int) (V : Int))) 22)).alloc (.cells (mk 2 (two (R : Int) (C : Int))) 22))) := HB.alloc HB.size _
          generalize (wr.alloc (.cells (mk 2 (two (U : Int) (V : Int))) 22)).alloc (.cells (mk 2 (two (R : Int) (C : Int))) 22) = w4 at *
          have Q0 : w4.drew.cell? ⟨wr.heap.size, 0, none⟩ = some (.int .i64 (U : Int)) := K9.drew.cell (i := 0) (by omega)
          have Q1 : w4.drew.cell? ⟨wr.heap.size, 1, none⟩ = some (.int .i64 (V : Int)) := K9.drew.cell (i := 1) (by omega)
          have Q2 : w4.drew.cell? ⟨wr.heap.size + 1, 0, none⟩ = some (.int .i64 (R : Int)) := K10.drew.cell (i := 0) (by omega)
          have Q3 : w4.drew.cell? ⟨wr.heap.size + 1, 1, none⟩ = some (.int .i64 (C : Int)) := K10.drew.cell (i := 1) (by omega)
          have Q4 := K2.drew.cell (i := U * 4 + V) (by omega)
          have Q5 := K7.drew.cell (i := R * 4 + C) (by omega)
          have F5 := K7.drew.free (R * 4 + C)
          have HRC : Hid (R * 4 + C < 16) := by show _ < _; omega
          clear K9 K10
          go_region
          all_goals
            have k7 := (K7.drew.set (i := R * 4 + C) HRC.out (f (U * 4 + V)))
            have k6 := K6.drew.setOther ⟨b6 + 1, R * 4 + C, none⟩ (.int .i64 (f (U * 4 + V))) (by dsimp only; omega)
            have k2 := K2.drew.setOther ⟨b6 + 1, R * 4 + C, none⟩ (.int .i64 (f (U * 4 + V))) (by have := HN.out; dsimp only; omega)
            have k4 := K4.drew.setOther ⟨b6 + 1, R * 4 + C, none⟩ (.int .i64 (f (U * 4 + V))) (by have := HN.out; dsimp only; omega)
            have hbx := HB.out.drew.setCell (p := ⟨b6 + 1, R * 4 + C, none⟩) (by have := HN.out; dsimp only; omega) (.int .i64 (f (U * 4 + V)))
            clear Q0 Q1 Q2 Q3 Q4 Q5 F5
            rw [HU.out] at k7
            go_wp2_with fail
            go_roundg g
            case rel => exact ⟨i + 1, by omega, by go_num, k7, k6, k2, k4, hbx⟩
            case measure => omega
    · have hS : ¬ SbdOk f k := fun h => hk h.2
      rw [(sbd_no hS).1, (sbd_no hS).2]
      have HF := Lib.hid (fun w => isFormS_no k w (by omega))
      clear hS hk hV
      go_enter Try.func17, Try.ntmps17
      go_wp2_with ((with_reducible show wpList _ _ _ (Oper.mk _ (Op.load 35 _) _ _ _ _ :: _) _ _); refine loadB (K2) rfl rfl rfl ?_)
      refine (HV.out _).mono ?_
      rintro e w1 ⟨rfl, hb⟩
      have K4 := K4.below hb K4.lt
      have HB : Hid (Below w.heap.size w w1) := HB.out.trans (hb.mono HB.out.size)
      clear hb HV K2
      go_wp2_with fail
      refine (HF.out _).mono ?_
      rintro e w' ⟨rfl, rfl⟩
      go_wp2_with ((with_reducible show wpList _ _ _ (Oper.mk _ (Op.store 35 _ _) _ _ _ _ :: _) _ _); refine storeB (K4) rfl rfl rfl rfl ?_)
      try simp only [Act.put, List.setIfInBounds_toArray, List.set_cons_zero, List.set_cons_succ]
      try simp only [Exit.inBlock, Exit.then]
      exact retctB (K4.row 16 _) rfl rfl rfl ⟨rfl, below_setRow HB.out (by omega) _⟩
  · have hS : ¬ SbdOk f k := fun h => hV h.1
    rw [(sbd_no hS).1, (sbd_no hS).2]
    have HV := Lib.hid (fun w => implBoard_no f w hV)
    clear hS hV
    go_enter Try.func17, Try.ntmps17
    go_wp2_with ((with_reducible show wpList _ _ _ (Oper.mk _ (Op.load 35 _) _ _ _ _ :: _) _ _); refine loadB (K2) rfl rfl rfl ?_)
    refine (HV.out _).mono ?_
    rintro e w1 ⟨rfl, hb⟩
    have K4 := K4.below hb K4.lt
    have HB : Hid (Below w.heap.size w w1) := HB.out.trans (hb.mono HB.out.size)
    clear hb HV K2
    go_wp2_with ((with_reducible show wpList _ _ _ (Oper.mk _ (Op.store 35 _ _) _ _ _ _ :: _) _ _); refine storeB (K4) rfl rfl rfl rfl ?_)
    try simp only [Act.put, List.setIfInBounds_toArray, List.set_cons_zero, List.set_cons_succ]
    try simp only [Exit.inBlock, Exit.then]
    exact retctB (K4.row 16 _) rfl rfl rfl ⟨rfl, below_setRow HB.out (by omega) _⟩
end Go.Proofs.Ytmcmpedmgibmkab
