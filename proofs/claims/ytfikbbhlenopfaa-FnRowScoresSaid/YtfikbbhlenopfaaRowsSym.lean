/-
  The contracts of IsSymmetricRow, in the reference and in the program, for every row.
-/
import Derived.Test.YtfikbbhlenopfaaRowsB
import Derived.Test.YtfikbbhlenopfaaRowsTurn
import Derived.Deep.QuietTactic
import Derived.BigQuiet
namespace Go.Proofs.Ytfikbbhlenopfaa
open Go.RowKit Plain
attribute [local go_sem] store_new

set_option maxHeartbeats 400000 in
theorem slideToLast_any (f : Nat → Int) (w : World) (hV : VdRow f) :
    Calls Try.prog 175 #[.agg (mk 4 f)] w fun e w' => e = .returned (.tuple #[.agg (mk 4 (rev (slid (rev f) 4).row)), .int .i64 (slid (rev f) 4).sc, .int .i64 (slid (rev f) 4).mg]) ∧ Below w.heap.size w w' := by
  have K1 := (Blk.new w 4 f 24).alloc (.cells (mk 4 fun _ => 0) 24)
  have K2 := Blk.new (w.alloc (.cells (mk 4 f) 24)) 4 (fun _ => 0) 24
  have HB := Lib.hid (((Below.refl w.heap.size w).alloc (Nat.le_refl _) (.cells (mk 4 f) 24)).alloc (by simp) (.cells (mk 4 fun _ => 0) 24))
  simp only [World.size_alloc] at K2
  have z4 := zero4
  have HV := Lib.hid (rev_vd hV)
  clear hV
  go_enter Try.func175, Try.ntmps175
  go_wp2_with ((with_reducible show wpList _ _ _ (Oper.mk _ (Op.load 24 _) _ _ _ _ :: _) _ _); refine loadR (K1) rfl rfl rfl ?_)
  refine (fromEnd_any f _).mono ?_
  rintro e w1 ⟨rfl, hb⟩
  replace K2 := K2.below hb K2.lt
  replace HB : Hid (Below w.heap.size w w1) := HB.out.trans (hb.mono HB.out.size)
  clear hb K1
  go_wp2_with fail
  refine (slideLine_any (rev f) _ HV.out).mono ?_
  rintro e w2 ⟨rfl, hb⟩
  replace K2 := K2.below hb K2.lt
  have l2 : w.heap.size + 1 < w2.heap.size := K2.lt
  replace HB : Hid (Below w.heap.size w w2) := HB.out.trans (hb.mono HB.out.size)
  clear hb
  replace K2 := K2.alloc (.cells (mk 4 (slid (rev f) 4).row) 24)
  have K3 := Blk.new w2 4 (slid (rev f) 4).row 24
  replace HB : Hid (Below w.heap.size w (w2.alloc (.cells (mk 4 (slid (rev f) 4).row) 24))) := HB.out.alloc HB.out.size _
  go_wp2_with ((with_reducible show wpList _ _ _ (Oper.mk _ (Op.load 24 _) _ _ _ _ :: _) _ _); refine loadR (K3) rfl rfl rfl ?_)
  refine (fromEnd_any _ _).mono ?_
  rintro e w3 ⟨rfl, hb⟩
  replace K2 := K2.below hb K2.lt
  replace HB : Hid (Below w.heap.size w w3) := HB.out.trans (hb.mono HB.out.size)
  clear hb K3
  go_wp2_with ((with_reducible show wpList _ _ _ (Oper.mk _ (Op.store 24 _ _) _ _ _ _ :: _) _ _); refine storeR (K2) rfl rfl rfl rfl ?_)
  try simp only [Exit.inBlock, Exit.then]
  exact retcttR (K2.row 4 _) rfl rfl rfl ⟨rfl, below_setRow HB.out (by omega) _⟩
set_option maxHeartbeats 1000000 in
theorem specSym_no (f : Nat → Int) (w : World) (hV : ¬ VdRow f) :
    Calls Try.prog 97 #[.agg (mk 4 f)] w fun e w' => e = .returned (.tuple #[.bool (syR f), .bool (rwO f)]) ∧ Below w.heap.size w w' := by
  have K1 := Blk.new w 4 f 24
  have HB := Lib.hid ((Below.refl w.heap.size w).alloc (Nat.le_refl _) (.cells (mk 4 f) 24))
  have z4 := zero4
  rw [syR_no hV, rwO_no hV]
  have HO := Lib.hid (rwO_no hV)
  clear hV
  go_enter Try.func97, Try.ntmps97
  go_wp2_with ((with_reducible show wpList _ _ _ (Oper.mk _ (Op.load 24 _) _ _ _ _ :: _) _ _); refine loadR (K1) rfl rfl rfl ?_)
  refine (l4Row_any _ _).mono ?_
  rw [HO.out]
  rintro e w1 ⟨rfl, hb⟩
  replace K1 := K1.below hb K1.lt
  replace HB : Hid (Below w.heap.size w w1) := HB.out.trans (hb.mono HB.out.size)
  clear hb
  go_wp2_with fail
  go_ret2
  exact ⟨rfl, HB.out⟩
set_option maxHeartbeats 1000000 in
theorem implSym_no (f : Nat → Int) (w : World) (hV : ¬ VdRow f) :
    Calls Try.prog 96 #[.agg (mk 4 f)] w fun e w' => e = .returned (.tuple #[.bool (syR f), .bool (rwO f)]) ∧ Below w.heap.size w w' := by
  have K1 := Blk.new w 4 f 24
  have HB := Lib.hid ((Below.refl w.heap.size w).alloc (Nat.le_refl _) (.cells (mk 4 f) 24))
  have z4 := zero4
  rw [syR_no hV, rwO_no hV]
  have HO := Lib.hid (rwO_no hV)
  clear hV
  go_enter Try.func96, Try.ntmps96
  go_wp2_with ((with_reducible show wpList _ _ _ (Oper.mk _ (Op.load 24 _) _ _ _ _ :: _) _ _); refine loadR (K1) rfl rfl rfl ?_)
  refine (implIsRow_any _ _).mono ?_
  rw [HO.out]
  rintro e w1 ⟨rfl, hb⟩
  replace K1 := K1.below hb K1.lt
  replace HB : Hid (Below w.heap.size w w1) := HB.out.trans (hb.mono HB.out.size)
  clear hb
  go_wp2_with fail
  go_ret2
  exact ⟨rfl, HB.out⟩
set_option maxHeartbeats 2000000 in
theorem implSym_any (f : Nat → Int) (w : World) :
    Calls Try.prog 96 #[.agg (mk 4 f)] w fun e w' => e = .returned (.tuple #[.bool (syR f), .bool (rwO f)]) ∧ Below w.heap.size w w' := by
  by_cases hV : VdRow f
  · skip
    have K1 := Blk.new w 4 f 24
    have HB := Lib.hid ((Below.refl w.heap.size w).alloc (Nat.le_refl _) (.cells (mk 4 f) 24))
    have z4 := zero4
    rw [syR_yes hV, rwO_yes hV, ← sy_same hV]
    have HV := Lib.hid hV
    have HO := Lib.hid (rwO_yes hV)
    have iE : ∀ (f g : Nat → Int) (w : World), (Op.equalIn 10000 24 (.agg (mk 4 f)) (.agg (mk 4 g))).run Try.prog w = .ok (sameR f g) w := eqR 9998
    clear hV
    go_enter Try.func96, Try.ntmps96
    go_wp2_with ((with_reducible show wpList _ _ _ (Oper.mk _ (Op.load 24 _) _ _ _ _ :: _) _ _); refine loadR (K1) rfl rfl rfl ?_)
    refine (implIsRow_any _ _).mono ?_
    rw [HO.out]
    rintro e w1 ⟨rfl, hb⟩
    replace K1 := K1.below hb K1.lt
    replace HB : Hid (Below w.heap.size w w1) := HB.out.trans (hb.mono HB.out.size)
    clear hb
    go_wp2_with ((with_reducible show wpList _ _ _ (Oper.mk _ (Op.load 24 _) _ _ _ _ :: _) _ _); refine loadR (K1) rfl rfl rfl ?_)
    refine (slideLine_any f _ HV.out).mono ?_
    rintro e w2 ⟨rfl, hb⟩
    replace K1 := K1.below hb K1.lt
    replace HB : Hid (Below w.heap.size w w2) := HB.out.trans (hb.mono HB.out.size)
    clear hb
    replace K1 := K1.alloc (.cells (mk 4 (slid f 4).row) 24)
    have K2 := Blk.new w2 4 (slid f 4).row 24
    replace HB : Hid (Below w.heap.size w (w2.alloc (.cells (mk 4 (slid f 4).row) 24))) := HB.out.alloc HB.out.size _
    go_wp2_with ((with_reducible show wpList _ _ _ (Oper.mk _ (Op.load 24 _) _ _ _ _ :: _) _ _); refine loadR (K1) rfl rfl rfl ?_)
    refine (slideToLast_any f _ HV.out).mono ?_
    rintro e w3 ⟨rfl, hb⟩
    replace K2 := K2.below hb K2.lt
    replace HB : Hid (Below w.heap.size w w3) := HB.out.trans (hb.mono HB.out.size)
    clear hb K1
    replace K2 := K2.alloc (.cells (mk 4 (rev (slid (rev f) 4).row)) 24)
    have K3 := Blk.new w3 4 (rev (slid (rev f) 4).row) 24
    replace HB : Hid (Below w.heap.size w (w3.alloc (.cells (mk 4 (rev (slid (rev f) 4).row)) 24))) := HB.out.alloc HB.out.size _
    go_wp2_with fail
    generalize w3.alloc (.cells (mk 4 (rev (slid (rev f) 4).row)) 24) = w4 at *
    generalize hR : rev (slid (rev f) 4).row = R at *
    generalize hL : (slid f 4).row = L at *
    have a0 := fun (W : World) (h : Blk W w2.heap.size 4 L 24) => h.cell (i := 0) (by omega)
    have a1 := fun (W : World) (h : Blk W w2.heap.size 4 L 24) => h.cell (i := 1) (by omega)
    have a2 := fun (W : World) (h : Blk W w2.heap.size 4 L 24) => h.cell (i := 2) (by omega)
    have a3 := fun (W : World) (h : Blk W w2.heap.size 4 L 24) => h.cell (i := 3) (by omega)
    have ae : (#[.int .i64 (L 0), .int .i64 (L 1), .int .i64 (L 2), .int .i64 (L 3)] : Array Value) = mk 4 L := rfl
    have b0 := fun (W : World) (h : Blk W w3.heap.size 4 R 24) => h.cell (i := 0) (by omega)
    have b1 := fun (W : World) (h : Blk W w3.heap.size 4 R 24) => h.cell (i := 1) (by omega)
    have b2 := fun (W : World) (h : Blk W w3.heap.size 4 R 24) => h.cell (i := 2) (by omega)
    have b3 := fun (W : World) (h : Blk W w3.heap.size 4 R 24) => h.cell (i := 3) (by omega)
    have be : (#[.int .i64 (R 0), .int .i64 (R 1), .int .i64 (R 2), .int .i64 (R 3)] : Array Value) = mk 4 R := rfl
    go_region_held3 (fun w' => Blk w' w2.heap.size 4 L 24 ∧ Blk w' w3.heap.size 4 R 24 ∧ Below w.heap.size w w') (first | exact ⟨K2.drew, K3.drew, HB.out.drew⟩ | assumption) (first | (go_at_call 163; refine (flushed_any _ _).mono ?_; rintro e w6 ⟨rfl, hb6⟩; have J := held44_step (by assumption) hb6; clear hb6) | fail)
    all_goals
      clear a0 a1 a2 a3 ae b0 b1 b2 b3 be
      go_wp2_with fail
      go_ret2
      exact ⟨by subst hR; subst hL; rfl, held44_below (by assumption)⟩
  · exact implSym_no f w hV
set_option maxHeartbeats 2000000 in
theorem specSym_any (f : Nat → Int) (w : World) :
    Calls Try.prog 97 #[.agg (mk 4 f)] w fun e w' => e = .returned (.tuple #[.bool (syR f), .bool (rwO f)]) ∧ Below w.heap.size w w' := by
  by_cases hV : VdRow f
  · skip
    have K1 := Blk.new w 4 f 24
    have HB := Lib.hid ((Below.refl w.heap.size w).alloc (Nat.le_refl _) (.cells (mk 4 f) 24))
    have z4 := zero4
    rw [syR_yes hV, rwO_yes hV]
    have HV := Lib.hid hV
    have HO := Lib.hid (rwO_yes hV)
    have HN1 : Hid (many (slid f 4).row 4 = ((slid f 4).n : Int)) := many_slid hV
    have HN2 : Hid (many (slid (rev f) 4).row 4 = ((slid f 4).n : Int)) := by show _ = _; rw [many_slid (rev_vd hV), n_rev]
    have hN4 : (slid f 4).n ≤ 4 := (slid_ok hV 4 (Nat.le_refl _)).n_le
    have HP : Hid (SyP f ↔ ∀ k, k < (slid f 4).n → (slid f 4).row k = (slid (rev f) 4).row ((slid f 4).n - 1 - k)) := Iff.rfl
    clear hV
    go_enter Try.func97, Try.ntmps97
    go_wp2_with ((with_reducible show wpList _ _ _ (Oper.mk _ (Op.load 24 _) _ _ _ _ :: _) _ _); refine loadR (K1) rfl rfl rfl ?_)
    refine (l4Row_any _ _).mono ?_
    rw [HO.out]
    rintro e w1 ⟨rfl, hb⟩
    replace K1 := K1.below hb K1.lt
    replace HB : Hid (Below w.heap.size w w1) := HB.out.trans (hb.mono HB.out.size)
    clear hb
    go_wp2_with ((with_reducible show wpList _ _ _ (Oper.mk _ (Op.load 24 _) _ _ _ _ :: _) _ _); refine loadR (K1) rfl rfl rfl ?_)
    refine (l2Row_any f _ HV.out).mono ?_
    rintro e w2 ⟨rfl, hb⟩
    replace K1 := K1.below hb K1.lt
    replace HB : Hid (Below w.heap.size w w2) := HB.out.trans (hb.mono HB.out.size)
    clear hb
    replace K1 := K1.alloc (.cells (mk 4 (slid f 4).row) 24)
    have K2 := Blk.new w2 4 (slid f 4).row 24
    replace HB : Hid (Below w.heap.size w (w2.alloc (.cells (mk 4 (slid f 4).row) 24))) := HB.out.alloc HB.out.size _
    go_wp2_with ((with_reducible show wpList _ _ _ (Oper.mk _ (Op.load 24 _) _ _ _ _ :: _) _ _); refine loadR (K1) rfl rfl rfl ?_)
    refine (l4Turn_any f _).mono ?_
    rintro e w3 ⟨rfl, hb⟩
    replace K2 := K2.below hb K2.lt
    replace HB : Hid (Below w.heap.size w w3) := HB.out.trans (hb.mono HB.out.size)
    clear hb K1
    go_wp2_with fail
    refine (l2Row_any (rev f) _ (rev_vd HV.out)).mono ?_
    rintro e w4 ⟨rfl, hb⟩
    replace K2 := (K2.below hb K2.lt).alloc (.cells (mk 4 (slid (rev f) 4).row) 24)
    replace HB : Hid (Below w.heap.size w w4) := HB.out.trans (hb.mono HB.out.size)
    clear hb
    have K3 := Blk.new w4 4 (slid (rev f) 4).row 24
    replace HB : Hid (Below w.heap.size w (w4.alloc (.cells (mk 4 (slid (rev f) 4).row) 24))) := HB.out.alloc HB.out.size _
    go_wp2_with ((with_reducible show wpList _ _ _ (Oper.mk _ (Op.load 24 _) _ _ _ _ :: _) _ _); refine loadR (K3) rfl rfl rfl ?_)
    refine (l4Many_any _ _).mono ?_
    rintro e w5 ⟨rfl, hb⟩
    replace K2 := K2.below hb K2.lt
    replace K3 := K3.below hb K3.lt
    replace HB : Hid (Below w.heap.size w w5) := HB.out.trans (hb.mono HB.out.size)
    clear hb
    rw [HN2.out]
    generalize hL : (slid f 4).row = L at *
    generalize hR : (slid (rev f) 4).row = R at *
    generalize hN : (slid f 4).n = N at *
    generalize w2.heap.size = B2 at *
    generalize w4.heap.size = B3 at *
    go_wp2_with fail
    go_loopg [9] N (fun g s9 wr => ∃ k : Nat, k + g = N ∧ s9 = .int .i64 k ∧ Hid (∀ j, j < k → L j = R (N - 1 - j)) ∧ Blk wr B2 4 L 24 ∧ Blk wr B3 4 R 24 ∧ Hid (Below w.heap.size w wr))
    case atStart => exact ⟨0, by omega, rfl, (fun j hj => by omega), K2, K3, HB⟩
    case round =>
      obtain ⟨k, hkg, rfl, HK, k2, k3, hb⟩ := hrel
      cases gk with
      | zero =>
        obtain rfl : k = N := by omega
        have HT : Hid (decide (SyP f) = true) := decide_eq_true (HP.out.2 HK.out)
        clear hkg
        go_wp2_with ((with_reducible show wpList _ _ _ (Oper.mk _ (Op.load 24 _) _ _ _ _ :: _) _ _); refine loadR (k2) rfl rfl rfl ?_)
        refine (l4Many_any _ _).mono ?_
        rintro e w6 ⟨rfl, hb6⟩
        rw [HN1.out]
        replace HB : Hid (Below w.heap.size w w6) := hb.out.trans (hb6.mono hb.out.size)
        clear hb6
        go_wp2_with fail
        go_ret2
        exact ⟨by rw [HT.out]; rfl, HB.out⟩
      | succ g =>
        have hkN : k < N := by omega
        have hlt : (k : Int) < (N : Int) := by omega
        have hk0 : (0 : Int) ≤ (k : Int) := by omega
        have hk4 : (k : Int) < 4 := by omega
        have hm0 : (0 : Int) ≤ (N : Int) - 1 - (k : Int) := by omega
        have hm4 : (N : Int) - 1 - (k : Int) < 4 := by omega
        have hm5 : ((N : Int) - 1 - (k : Int)).toNat = N - 1 - k := by omega
        have c2 := k2.cell (i := k) (by omega)
        have c3 := k3.cell (i := N - 1 - k) (by omega)
        by_cases hq : L k = R (N - 1 - k)
        · have HK2 : Hid (∀ j, j < k + 1 → L j = R (N - 1 - j)) := fun j hj => by
            by_cases e : j = k
            · rw [e]; exact hq
            · exact HK.out j (by omega)
          rw [← hq] at c3
          generalize L k = x at c2 c3
          clear hq
          go_wp2_with fail
          go_quiet (fail)
          go_wp2_with fail
          go_roundg g
          case rel => exact ⟨k + 1, by omega, by go_num, HK2, k2.drewN _, k3.drewN _, below_drewN hb.out _⟩
          case measure => omega
        · have HT : Hid (decide (SyP f) = false) := decide_eq_false fun h => hq (HP.out.1 h k hkN)
          have d0 : (L k != R (N - 1 - k)) = true := by simpa using hq
          generalize L k = x at c2 d0
          generalize R (N - 1 - k) = y at c3 d0
          clear hq
          go_wp2_with fail
          go_quiet (fail)
          go_wp2_with fail
          try rw [Exit.noGoto_ret]
          go_ret2
          exact ⟨by rw [HT.out]; rfl, below_drewN hb.out _⟩
  · exact specSym_no f w hV
end Go.Proofs.Ytfikbbhlenopfaa
