/-
  The contracts of the program's StepsOf and nextBoards: the steps of a board, and the boards behind them.
-/
import Derived.Test.YtknjmkapabjolaaImplDo
import Derived.Test.YtknjmkapabjolaaCellsOf
import Derived.Test.YtknjmkapabjolaaSpecSteps
namespace Go.Proofs.Ytknjmkapabjolaa
open Go.RowKit Plain
attribute [local go_sem] store_new
set_option linter.unusedVariables false
set_option linter.unusedSimpArgs false

namespace Plain
/-- The steps into the first i cells, and j more. -/
def stpsJ (d : Int) (E : Nat → Int) (i j : Nat) : List (List Int) := stps d E i ++ (List.range j).map fun t => cl 4 (stp d E i ((t + 1 : Nat) : Int))
theorem stpsJ_zero (d : Int) (E : Nat → Int) (i : Nat) : stpsJ d E i 0 = stps d E i := by simp [stpsJ]
theorem stpsJ_two (d : Int) (E : Nat → Int) (i : Nat) : stpsJ d E i 2 = stps d E (i + 1) := rfl
theorem stpsJ_succ (d : Int) (E : Nat → Int) (i j : Nat) : stpsJ d E i (j + 1) = stpsJ d E i j ++ [cl 4 (stp d E i ((j + 1 : Nat) : Int))] := by simp [stpsJ, List.range_succ]
theorem stpsJ_len (d : Int) (E : Nat → Int) (i j : Nat) : (stpsJ d E i j).length = i * 2 + j := by simp [stpsJ, stps_len]
theorem all_of_cells {S : Nat → Int} (h : Vd S) : cellN S = empN S 16 ∧ cellL S = empL S 16 := ⟨(cell_yes h).2, (cell_yes h).1⟩
end Plain
theorem stepF_cl (d : Int) (E : Nat → Int) (i : Nat) (t : Int) : cl 4 (stepF d (fun j => E (i * 2 + j)) t) = cl 4 (stp d E i t) := cl_inj.2 fun j hj => by
  rcases (by omega : j = 0 ∨ j = 1 ∨ j = 2 ∨ j = 3) with rfl | rfl | rfl | rfl <;> rfl
set_option maxHeartbeats 4000000 in
set_option maxRecDepth 20000 in
theorem implSteps_any (f : Nat → Int) (d : Int) (w : World) :
    Calls Try.prog 19 #[.agg (mk 16 f), .int .i64 d] w fun e w' => ∃ g cap, e = .returned (.tuple #[.slice (some ⟨g, 0, none⟩) (stpR f d).length cap, .bool (slideRO f d)]) ∧
      OwnsL 33 4 w' w.heap.size (.slice (some ⟨g, 0, none⟩) (stpR f d).length cap) (stpR f d) ∧ Below w.heap.size w w' := by
  obtain ⟨i0, hi, hz0, hz1, hz2⟩ := info_parts infoT
  have K1 := Blk.new w 16 f 29
  have HB := Lib.hid ((Below.refl w.heap.size w).alloc (Nat.le_refl _) (.cells (mk 16 f) 29))
  have z16 := zero16
  have z2 := zero2
  by_cases hS : SlideOk f d
  · obtain ⟨y1, y2, y3, _⟩ := slide_yes hS
    have HSB := implSlide_any f d
    rw [y1, y2, y3] at HSB
    rw [stpR_yes hS, y1]
    clear y1 y2 y3
    have hVS := slideB_vd hS.1 d.toNat
    obtain ⟨k, rfl⟩ := Int.eq_ofNat_of_zero_le hS.2.1
    clear hS
    rw [Int.toNat_natCast] at *
    by_cases hm : sameB (slideB f k) f = true
    · rw [step_same hm]
      generalize slideB f k = S at *
      have iE : ∀ (w : World), (Op.equalIn 10000 29 (.agg (mk 16 S)) (.agg (mk 16 f))).run Try.prog w = .ok true w := fun w => by rw [eqB 9996, hm]
      clear hm hVS
      go_enter Try.func19, Try.ntmps19
      go_wp2_with ((with_reducible show wpList _ _ _ (Oper.mk _ (Op.load 29 _) _ _ _ _ :: _) _ _); refine loadB (K1) rfl rfl rfl ?_)
      refine (HSB _).mono ?_
      clear HSB
      rintro e w1 ⟨rfl, hb⟩
      have K1 := ((K1.below hb K1.lt).alloc (.cells (mk 16 S) 29)).alloc (.cells #[] 33)
      have K6 := (Blk.new w1 16 S 29).alloc (.cells #[] 33)
      have HB := HB.out.trans (hb.mono HB.out.size)
      have HB := HB.alloc HB.size (.cells (mk 16 S) 29)
      have HO := Lib.hid (OwnsL.made (t := 33) (m := 4) (b := w.heap.size) (w1.alloc (.cells (mk 16 S) 29)) HB.size)
      have HB : Hid (Below w.heap.size w ((w1.alloc (.cells (mk 16 S) 29)).alloc (.cells #[] 33))) := HB.alloc HB.size _
      clear hb
      simp only [World.size_alloc] at HO
      go_wp2_with (first | ((with_reducible show wpList _ _ _ (Oper.mk _ (Op.load 29 _) _ _ _ (some _) :: _) _ _); refine loadgB (K6) rfl rfl rfl ?_) | ((with_reducible show wpList _ _ _ (Oper.mk _ (Op.load 29 _) _ _ _ (some _) :: _) _ _); refine loadgB (K1) rfl rfl rfl ?_))
      go_ret2
      exact ⟨_, _, rfl, HO.out, HB.out⟩
    · have hm : sameB (slideB f k) f = false := by simpa using hm
      rw [step_move hm]
      generalize slideB f k = S at *
      have iE : ∀ (w : World), (Op.equalIn 10000 29 (.agg (mk 16 S)) (.agg (mk 16 f))).run Try.prog w = .ok false w := fun w => by rw [eqB 9996, hm]
      have hle := empN_le S 16
      have HEM := Lib.hid (implCells_any S)
      rw [(all_of_cells hVS).1, (all_of_cells hVS).2, vdO_yes hVS] at HEM
      have HCA := Lib.hid (fun (w : World) (base g cap n : Nat) (h : OwnsCells w base (.slice (some ⟨g, 0, none⟩) n cap) n (empL S 16)) (hn : n = empN S 16) => cells_at h hn)
      clear hm hVS
      generalize hnE : empN S 16 = nE at *
      go_enter Try.func19, Try.ntmps19
      go_wp2_with ((with_reducible show wpList _ _ _ (Oper.mk _ (Op.load 29 _) _ _ _ _ :: _) _ _); refine loadB (K1) rfl rfl rfl ?_)
      refine (HSB _).mono ?_
      clear HSB
      rintro e w1 ⟨rfl, hb⟩
      have K1 := ((K1.below hb K1.lt).alloc (.cells (mk 16 S) 29)).alloc (.cells #[] 33)
      have K6 := (Blk.new w1 16 S 29).alloc (.cells #[] 33)
      have HB := HB.out.trans (hb.mono HB.out.size)
      have HB := HB.alloc HB.size (.cells (mk 16 S) 29)
      have HO := Lib.hid (OwnsL.made (t := 33) (m := 4) (b := w.heap.size) (w1.alloc (.cells (mk 16 S) 29)) HB.size)
      have HB : Hid (Below w.heap.size w ((w1.alloc (.cells (mk 16 S) 29)).alloc (.cells #[] 33))) := HB.alloc HB.size _
      clear hb
      simp only [World.size_alloc] at HO
      go_wp2_with (first | ((with_reducible show wpList _ _ _ (Oper.mk _ (Op.load 29 _) _ _ _ (some _) :: _) _ _); refine loadgB (K6) rfl rfl rfl ?_) | ((with_reducible show wpList _ _ _ (Oper.mk _ (Op.load 29 _) _ _ _ (some _) :: _) _ _); refine loadgB (K1) rfl rfl rfl ?_) | ((with_reducible show wpList _ _ _ (Oper.mk _ (Op.load 29 _) _ _ _ _ :: _) _ _); refine loadB (K6) rfl rfl rfl ?_))
      clear iE K1
      refine (HEM.out _).mono ?_
      rintro _ w3 ⟨ge, ce, rfl, he, hb⟩
      have HO : Hid (OwnsN 33 4 w3 w.heap.size (.slice (some ⟨w1.heap.size + 1, 0, none⟩) 0 0) 0 (stps k (empF S) 0)) := OwnsL.below HO.out hb
      have HE : Hid (OwnsCells w3 w.heap.size (.slice (some ⟨ge, 0, none⟩) nE ce) nE (empL S 16)) := ownsRow_wide he HB.out.size
      have HB : Hid (Below w.heap.size w w3) := HB.out.trans (hb.mono HB.out.size)
      clear hb he K6 HEM
      go_wp2_with fail
      go_loopg [9, 39] nE (fun gk s9 s39 wr => ∃ (i : Nat) (v : Value), i + gk = nE ∧ s39 = .int .i64 i ∧ v = s9 ∧ (∃ gg cap, v = .slice (some ⟨gg, 0, none⟩) (i * 2) cap) ∧ Hid (OwnsN 33 4 wr w.heap.size v (i * 2) (stps k (empF S) i)) ∧ Hid (OwnsCells wr w.heap.size (.slice (some ⟨ge, 0, none⟩) nE ce) nE (empL S 16)) ∧ Hid (Below w.heap.size w wr))
      case atStart => exact ⟨0, _, by omega, rfl, rfl, ⟨_, _, rfl⟩, HO, HE, HB⟩
      case round =>
        obtain ⟨i, v, hig, rfl, rfl, ⟨gg, cap, hv⟩, HO, HE, HB⟩ := hrel
        subst hv
        cases gk with
        | zero =>
          have hr : ¬ ((i : Int) < (nE : Int)) := by omega
          obtain rfl : i = nE := by omega
          clear hig
          go_wp2_with fail
          go_ret2
          refine ⟨gg, cap, by rw [stps_len]; rfl, ?_, HB.out⟩
          rw [stps_len]
          exact OwnsN.out HO.out (stps_len _ _ _).symm
        | succ gk2 =>
          have hr : (i : Int) < (nE : Int) := by omega
          have hi0 : (0 : Int) ≤ (i : Int) := by omega
          have CE : CAt wr ge (nE * 2) (empF S) := HCA.out _ _ _ _ _ HE.out rfl
          go_wp2_with ((with_reducible show wpList _ _ _ (Oper.mk _ (Op.load 26 _) _ _ _ _ :: _) _ _); refine loadAC (CE) (by omega) rfl rfl rfl ?_)
          have KC := Blk.new wr 2 (fun j => empF S (i * 2 + j)) 26
          have HKC : Hid (w.heap.size ≤ wr.heap.size) := HB.out.size
          have HO : Hid (OwnsN 33 4 (wr.alloc (.cells (mk 2 (fun j => empF S (i * 2 + j))) 26)) w.heap.size (.slice (some ⟨gg, 0, none⟩) (i * 2) cap) (i * 2 + 0) (stpsJ k (empF S) i 0)) := by rw [stpsJ_zero]; exact World.ownsRow.alloc HO.out _
          have HE : Hid (OwnsCells (wr.alloc (.cells (mk 2 (fun j => empF S (i * 2 + j))) 26)) w.heap.size (.slice (some ⟨ge, 0, none⟩) nE ce) nE (empL S 16)) := World.ownsRow.alloc HE.out _
          have HB : Hid (Below w.heap.size w (wr.alloc (.cells (mk 2 (fun j => empF S (i * 2 + j))) 26))) := HB.out.alloc HB.out.size _
          clear CE
          generalize wr.alloc (.cells (mk 2 (fun j => empF S (i * 2 + j))) 26) = x0 at *
          generalize hbc : wr.heap.size = bc at *
          go_loopg [9, 14] 2 (fun gj s9 s14 wx => ∃ (j : Nat) (v : Value), j + gj = 2 ∧ s14 = .int .i64 ((j + 1 : Nat) : Int) ∧ v = s9 ∧ (∃ gg cap, v = .slice (some ⟨gg, 0, none⟩) (i * 2 + j) cap) ∧ Hid (OwnsN 33 4 wx w.heap.size v (i * 2 + j) (stpsJ k (empF S) i j)) ∧ Hid (OwnsCells wx w.heap.size (.slice (some ⟨ge, 0, none⟩) nE ce) nE (empL S 16)) ∧ Blk wx bc 2 (fun j => empF S (i * 2 + j)) 26 ∧ Hid (Below w.heap.size w wx))
          case atStart => exact ⟨0, _, by omega, rfl, rfl, ⟨_, _, rfl⟩, HO, HE, KC, HB⟩
          case round =>
            obtain ⟨j, v, hjg, rfl, rfl, ⟨g2, c2, hv⟩, HO, HE, KC, HB⟩ := hrel
            subst hv
            cases gk with
            | zero =>
              have hr2 : ¬ (((j + 1 : Nat) : Int) ≤ 2) := by omega
              obtain rfl : j = 2 := by omega
              clear hjg
              have HO : Hid (OwnsN 33 4 wr w.heap.size (.slice (some ⟨g2, 0, none⟩) (i * 2 + 2) c2) ((i + 1) * 2) (stps k (empF S) (i + 1))) := by rw [← stpsJ_two, Nat.succ_mul]; exact HO.out
              go_wp2_with fail
              go_roundg gk2
              case rel => exact ⟨i + 1, _, by omega, by go_num, rfl, ⟨g2, c2, by rw [Nat.succ_mul]⟩, HO, HE, HB⟩
              case measure => omega
            | succ gj2 =>
              have hr2 : ((j + 1 : Nat) : Int) ≤ 2 := by omega
              have hj2 : j < 2 := by omega
              have hsz := HB.out.size
              have HJ : Hid (stpsJ k (empF S) i (j + 1) = stpsJ k (empF S) i j ++ [cl 4 (stp k (empF S) i ((j : Int) + 1))]) := stpsJ_succ _ _ _ _
              go_wp2_with (first | ((with_reducible show wpList _ _ _ (Oper.mk _ (Op.load 26 _) _ _ _ _ :: _) _ _); refine loadC (KC) rfl rfl rfl ?_) | ((with_reducible show wpList _ _ _ (Oper.mk _ (Op.build _ _) _ _ _ _ :: _) _ _); refine wpl_stepT _ _ _ rfl rfl rfl rfl rfl ?_) | ((with_reducible show wpList _ _ _ (Oper.mk _ (Op.buildSlice _ 1 _) _ _ _ _ :: _) _ _); refine wpl_buildT _ rfl rfl rfl ?_) | (at_builtin; refine wpl_app (v := .slice (some ⟨g2, 0, none⟩) (i * 2 + j) c2) rfl _ _ 37 rfl w.heap.size 33 i0 _ 4 32 Try.underlying37 hi hz0 hz1 hz2 rfl (by decide) rfl (World.ownsRow.alloc HO.out _) wr.heap.size 0 1 1 _ 4 rfl (Blk.new _ _ _ _).at (by omega) (by unfold maxLen; omega) (by omega) (by simp; omega) ?_))
              intro v' w7 R hbl hgr hloc
              obtain ⟨g', cap', hv'⟩ := ownsRow_succ R
              have HVv : Hid (∃ gg cap, v' = .slice (some ⟨gg, 0, none⟩) (i * 2 + (j + 1)) cap) := ⟨g', cap', hv'⟩
              rw [snoc_walk (m := 4), stepF_cl] at R
              have HO7 : Hid (OwnsN 33 4 w7 w.heap.size v' (i * 2 + (j + 1)) (stpsJ k (empF S) i (j + 1))) := by
                show w7.ownsRow _ _ _ _ _ _
                rw [HJ.out]
                exact R
              have HE7 : Hid (OwnsCells w7 w.heap.size (.slice (some ⟨ge, 0, none⟩) nE ce) nE (empL S 16)) := World.ownsRow.kept (World.ownsRow.alloc HE.out _) hgr (own_ne_own HE.out HO.out (by decide))
              have HB7 : Hid (Below w.heap.size w w7) := (HB.out.alloc hsz _).trans hbl
              have KC := (KC.alloc _).grown hgr (fun e => own_ne_blk HO.out KC (by decide) e.symm)
              clear hbl hgr R hv' HO HE hloc
              go_wp2_with fail
              go_roundg gj2
              case rel => exact ⟨j + 1, _, by omega, by go_num, rfl, HVv.out, HO7, HE7, KC, HB7⟩
              case measure => omega
  · obtain ⟨y1, y2, y3, _⟩ := slide_no hS
    have HSB := implSlide_any f d
    rw [y1, y2, y3] at HSB
    rw [stpR_no hS, y1]
    clear y1 y2 y3 hS
    go_enter Try.func19, Try.ntmps19
    go_wp2_with ((with_reducible show wpList _ _ _ (Oper.mk _ (Op.load 29 _) _ _ _ _ :: _) _ _); refine loadB (K1) rfl rfl rfl ?_)
    refine (HSB _).mono ?_
    clear HSB
    rintro e w1 ⟨rfl, hb⟩
    have HB := HB.out.trans (hb.mono HB.out.size)
    have HB := HB.alloc HB.size (.cells (mk 16 fun _ => 0) 29)
    have HO := Lib.hid (OwnsL.made (t := 33) (m := 4) (b := w.heap.size) (w1.alloc (.cells (mk 16 fun _ => 0) 29)) HB.size)
    have HB : Hid (Below w.heap.size w ((w1.alloc (.cells (mk 16 fun _ => 0) 29)).alloc (.cells #[] 33))) := HB.alloc HB.size _
    clear hb K1
    simp only [World.size_alloc] at HO
    go_wp2_with fail
    go_ret2
    exact ⟨_, _, rfl, HO.out, HB.out⟩
end Go.Proofs.Ytknjmkapabjolaa
