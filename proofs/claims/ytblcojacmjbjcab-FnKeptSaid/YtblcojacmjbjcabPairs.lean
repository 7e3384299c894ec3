/-
  The contracts of EqualPairs, in the reference and in the program, for every board.
-/
import Derived.Test.YtblcojacmjbjcabPairsRow
import Derived.Test.YtblcojacmjbjcabNumbers
import Derived.Test.YtblcojacmjbjcabBaseA
import Derived.Deep.RegionHeld3
namespace Go.Proofs.Ytblcojacmjbjcab
open Go.RowKit Plain
attribute [local go_sem] store_new

theorem held_step {w W w6 : World} {b n : Nat} {f : Nat → Int} {t : TypeId} (h : Blk W b n f t ∧ Below w.heap.size w W) (hb : Below W.heap.size W w6) : Blk w6 b n f t ∧ Below w.heap.size w w6 :=
  ⟨h.1.below hb h.1.lt, h.2.trans (hb.mono h.2.size)⟩
theorem held_below {w W : World} {b n B : Nat} {f : Nat → Int} {t : TypeId} (h : Blk W b n f t ∧ Below B w W) : Below B w W := h.2
set_option maxHeartbeats 4000000 in
theorem implPairs_yes (f : Nat → Int) (w : World) (hV : Vd f) :
    Calls Try.prog 250 #[.agg (mk 16 f)] w fun e w' => e = .returned (.tuple #[.int .i64 (pairsR f), .bool (vdO f)]) ∧ Below w.heap.size w w' := by
  have K := Blk.new w 16 f 47
  have HB := Lib.hid ((Below.refl w.heap.size w).alloc (Nat.le_refl _) (.cells (mk 16 f) 47))
  rw [pairsR_yes hV, vdO_yes hV, plines_rows f 4 (by omega)]
  have HV := Lib.hid hV
  clear hV
  go_enter Try.func250, Try.ntmps250
  go_wp2_with ((with_reducible show wpList _ _ _ (Oper.mk _ (Op.load 47 _) _ _ _ _ :: _) _ _); refine loadB (K) rfl rfl rfl ?_)
  refine (implBoard_yes _ _ HV.out).mono ?_
  rintro e w1 ⟨rfl, hb⟩
  have K := (K.below hb K.lt)
  have HB : Hid (Below w.heap.size w w1) := HB.out.trans (hb.mono HB.out.size)
  clear hb
  go_wp2_with fail
  have a0 := fun (W : World) (h : Blk W w.heap.size 16 f 47) => h.cell (i := 0) (by omega)
  have a1 := fun (W : World) (h : Blk W w.heap.size 16 f 47) => h.cell (i := 1) (by omega)
  have a2 := fun (W : World) (h : Blk W w.heap.size 16 f 47) => h.cell (i := 2) (by omega)
  have a3 := fun (W : World) (h : Blk W w.heap.size 16 f 47) => h.cell (i := 3) (by omega)
  have a4 := fun (W : World) (h : Blk W w.heap.size 16 f 47) => h.cell (i := 4) (by omega)
  have a5 := fun (W : World) (h : Blk W w.heap.size 16 f 47) => h.cell (i := 5) (by omega)
  have a6 := fun (W : World) (h : Blk W w.heap.size 16 f 47) => h.cell (i := 6) (by omega)
  have a7 := fun (W : World) (h : Blk W w.heap.size 16 f 47) => h.cell (i := 7) (by omega)
  have a8 := fun (W : World) (h : Blk W w.heap.size 16 f 47) => h.cell (i := 8) (by omega)
  have a9 := fun (W : World) (h : Blk W w.heap.size 16 f 47) => h.cell (i := 9) (by omega)
  have a10 := fun (W : World) (h : Blk W w.heap.size 16 f 47) => h.cell (i := 10) (by omega)
  have a11 := fun (W : World) (h : Blk W w.heap.size 16 f 47) => h.cell (i := 11) (by omega)
  have a12 := fun (W : World) (h : Blk W w.heap.size 16 f 47) => h.cell (i := 12) (by omega)
  have a13 := fun (W : World) (h : Blk W w.heap.size 16 f 47) => h.cell (i := 13) (by omega)
  have a14 := fun (W : World) (h : Blk W w.heap.size 16 f 47) => h.cell (i := 14) (by omega)
  have a15 := fun (W : World) (h : Blk W w.heap.size 16 f 47) => h.cell (i := 15) (by omega)
  have ae : (#[.int .i64 (f 0), .int .i64 (f 1), .int .i64 (f 2), .int .i64 (f 3), .int .i64 (f 4), .int .i64 (f 5), .int .i64 (f 6), .int .i64 (f 7), .int .i64 (f 8), .int .i64 (f 9), .int .i64 (f 10), .int .i64 (f 11), .int .i64 (f 12), .int .i64 (f 13), .int .i64 (f 14), .int .i64 (f 15)] : Array Value) = mk 16 f := rfl
  have HW : Hid (w.heap.size < w1.heap.size) := K.lt
  have p0 := (prows_bd f 4).1
  have p1 : prows f 4 ≤ 12 := (prows_bd f 4).2
  have q0 := (prows_bd (fun j => f (j % 4 * 4 + j / 4)) 4).1
  have q1 : prows (fun j => f (j % 4 * 4 + j / 4)) 4 ≤ 12 := (prows_bd (fun j => f (j % 4 * 4 + j / 4)) 4).2
  have ew : IntKind.i64.wrap (prows f 4 + prows (fun j => f (j % 4 * 4 + j / 4)) 4) = prows f 4 + prows (fun j => f (j % 4 * 4 + j / 4)) 4 := IntWalk.i64_in _ (by omega)
  go_region_held3 (fun w' => Blk w' w.heap.size 16 f 47 ∧ Below w.heap.size w w') (first | exact ⟨K.drew, HB.out.drew⟩ | assumption) (first | (go_at_call 285; refine (pairsInRows_any _ _ (by first | exact HV.out | exact vd_tr HV.out)).mono ?_; rintro e w6 ⟨rfl, hb6⟩; have J := held_step (by assumption) hb6; clear hb6) | (go_at_call 278; refine (transposed_any _ _).mono ?_; rintro e w7 ⟨rfl, hb7⟩; have J := held_step (by assumption) hb7; clear hb7))
  all_goals
    clear a0 a1 a2 a3 a4 a5 a6 a7 a8 a9 a10 a11 a12 a13 a14 a15 ae
    go_wp2_with fail
    go_ret2
    exact ⟨rfl, held_below (by assumption)⟩
theorem implPairs_any (f : Nat → Int) (w : World) :
    Calls Try.prog 250 #[.agg (mk 16 f)] w fun e w' => e = .returned (.tuple #[.int .i64 (pairsR f), .bool (vdO f)]) ∧ Below w.heap.size w w' := by
  by_cases hV : Vd f
  · exact implPairs_yes f w hV
  · have K := Blk.new w 16 f 47
    have HB := Lib.hid ((Below.refl w.heap.size w).alloc (Nat.le_refl _) (.cells (mk 16 f) 47))
    rw [pairsR_no hV, vdO_no hV]
    have HV := Lib.hid hV
    clear hV
    go_enter Try.func250, Try.ntmps250
    go_wp2_with ((with_reducible show wpList _ _ _ (Oper.mk _ (Op.load 47 _) _ _ _ _ :: _) _ _); refine loadB (K) rfl rfl rfl ?_)
    refine (implBoard_no _ _ HV.out).mono ?_
    rintro e w1 ⟨rfl, hb⟩
    have HB : Hid (Below w.heap.size w w1) := HB.out.trans (hb.mono HB.out.size)
    clear hb K
    go_wp2_with fail
    go_ret2
    exact ⟨rfl, HB.out⟩

set_option maxHeartbeats 8000000 in
theorem specPairs_any (f : Nat → Int) (w : World) :
    Calls Try.prog 286 #[.agg (mk 16 f)] w fun e w' => e = .returned (.tuple #[.int .i64 (pairsR f), .bool (vdO f)]) ∧ Below w.heap.size w w' := by
  have K := Blk.new w 16 f 47
  have HB := Lib.hid ((Below.refl w.heap.size w).alloc (Nat.le_refl _) (.cells (mk 16 f) 47))
  by_cases hV : Vd f
  · rw [pairsR_yes hV, vdO_yes hV]
    have HV := Lib.hid hV
    clear hV
    go_enter Try.func286, Try.ntmps286
    go_wp2_with ((with_reducible show wpList _ _ _ (Oper.mk _ (Op.load 47 _) _ _ _ _ :: _) _ _); refine loadB (K) rfl rfl rfl ?_)
    refine (l2Board_yes _ _ HV.out).mono ?_
    rintro e w1 ⟨rfl, hb⟩
    have K := K.below hb K.lt
    have HB : Hid (Below w.heap.size w w1) := HB.out.trans (hb.mono HB.out.size)
    clear hb
    go_wp2_with fail
    go_loopg [5, 4] 4 (fun g s5 s4 wr => ∃ i : Nat, i + g = 4 ∧ s5 = .int .i64 i ∧ s4 = .int .i64 (plines f i) ∧ Blk wr w.heap.size 16 f 47 ∧ Hid (Below w.heap.size w wr))
    case atStart => exact ⟨0, by omega, rfl, rfl, K, HB⟩
    case round =>
      obtain ⟨i, hig, rfl, rfl, k1, hb⟩ := hrel
      cases gk with
      | zero =>
        have hi : ¬ ((i : Int) < 4) := by omega
        obtain rfl : i = 4 := by omega
        clear hig hi
        go_wp2_with fail
        go_ret2
        exact ⟨rfl, hb.out⟩
      | succ g =>
        have hi : (i : Int) < 4 := by omega
        have hi4 : i < 4 := by omega
        have HS : Hid (plines f (i + 1) = plines f i + prow (lineF f 0 i) 3 + prow (lineF f 1 i) 3) := rfl
        have hbd := plines_bd f i
        have P0 := hbd.1
        have P1 : plines f i ≤ 24 := by omega
        have u0 := (prow_bd (lineF f 0 i) 3).1
        have u1 : prow (lineF f 0 i) 3 ≤ 3 := (prow_bd (lineF f 0 i) 3).2
        have v0 := (prow_bd (lineF f 1 i) 3).1
        have v1 : prow (lineF f 1 i) 3 ≤ 3 := (prow_bd (lineF f 1 i) 3).2
        clear hbd
        go_wp2_with fail
        have a0 := fun (W : World) (h : Blk W w.heap.size 16 f 47) => h.cell (i := 0) (by omega)
        have a1 := fun (W : World) (h : Blk W w.heap.size 16 f 47) => h.cell (i := 1) (by omega)
        have a2 := fun (W : World) (h : Blk W w.heap.size 16 f 47) => h.cell (i := 2) (by omega)
        have a3 := fun (W : World) (h : Blk W w.heap.size 16 f 47) => h.cell (i := 3) (by omega)
        have a4 := fun (W : World) (h : Blk W w.heap.size 16 f 47) => h.cell (i := 4) (by omega)
        have a5 := fun (W : World) (h : Blk W w.heap.size 16 f 47) => h.cell (i := 5) (by omega)
        have a6 := fun (W : World) (h : Blk W w.heap.size 16 f 47) => h.cell (i := 6) (by omega)
        have a7 := fun (W : World) (h : Blk W w.heap.size 16 f 47) => h.cell (i := 7) (by omega)
        have a8 := fun (W : World) (h : Blk W w.heap.size 16 f 47) => h.cell (i := 8) (by omega)
        have a9 := fun (W : World) (h : Blk W w.heap.size 16 f 47) => h.cell (i := 9) (by omega)
        have a10 := fun (W : World) (h : Blk W w.heap.size 16 f 47) => h.cell (i := 10) (by omega)
        have a11 := fun (W : World) (h : Blk W w.heap.size 16 f 47) => h.cell (i := 11) (by omega)
        have a12 := fun (W : World) (h : Blk W w.heap.size 16 f 47) => h.cell (i := 12) (by omega)
        have a13 := fun (W : World) (h : Blk W w.heap.size 16 f 47) => h.cell (i := 13) (by omega)
        have a14 := fun (W : World) (h : Blk W w.heap.size 16 f 47) => h.cell (i := 14) (by omega)
        have a15 := fun (W : World) (h : Blk W w.heap.size 16 f 47) => h.cell (i := 15) (by omega)
        have ae : (#[.int .i64 (f 0), .int .i64 (f 1), .int .i64 (f 2), .int .i64 (f 3), .int .i64 (f 4), .int .i64 (f 5), .int .i64 (f 6), .int .i64 (f 7), .int .i64 (f 8), .int .i64 (f 9), .int .i64 (f 10), .int .i64 (f 11), .int .i64 (f 12), .int .i64 (f 13), .int .i64 (f 14), .int .i64 (f 15)] : Array Value) = mk 16 f := rfl
        generalize plines f i = P at *
        have ew1 : IntKind.i64.wrap (P + prow (lineF f 0 i) 3) = P + prow (lineF f 0 i) 3 := IntWalk.i64_in _ (by omega)
        have ew2 : IntKind.i64.wrap (P + prow (lineF f 0 i) 3 + prow (lineF f 1 i) 3) = P + prow (lineF f 0 i) 3 + prow (lineF f 1 i) 3 := IntWalk.i64_in _ (by omega)
        go_region_held3 (fun w' => Blk w' w.heap.size 16 f 47 ∧ Below w.heap.size w w') (first | exact ⟨k1.drew, hb.out.drew⟩ | assumption) (first | (go_at_call 238; (first | (with_reducible refine (l2Numbers_0 f i _ hi4).mono ?_) | (with_reducible refine (l2Numbers_1 f i _ hi4).mono ?_)); rintro e w6 ⟨rfl, hb6⟩; have J := held_step (by assumption) hb6; clear hb6) | (go_at_call 298; refine (l2Pairs_any _ _ (by first | exact lineF_vd HV.out 0 hi4 | exact lineF_vd HV.out 1 hi4)).mono ?_; rintro e w7 ⟨rfl, hb7⟩; have J := held_step (by assumption) hb7; clear hb7))
        all_goals
          clear a0 a1 a2 a3 a4 a5 a6 a7 a8 a9 a10 a11 a12 a13 a14 a15 ae ew1 ew2
          go_wp2_with fail
          go_roundg g
          case rel => exact ⟨i + 1, by omega, by go_num, by rw [HS.out], And.left (b := Below w.heap.size w _) (by assumption), held_below (by assumption)⟩
          case measure => omega
  · rw [pairsR_no hV, vdO_no hV]
    have HV := Lib.hid hV
    clear hV
    go_enter Try.func286, Try.ntmps286
    go_wp2_with ((with_reducible show wpList _ _ _ (Oper.mk _ (Op.load 47 _) _ _ _ _ :: _) _ _); refine loadB (K) rfl rfl rfl ?_)
    refine (l2Board_no _ _ HV.out).mono ?_
    rintro e w1 ⟨rfl, hb⟩
    have HB : Hid (Below w.heap.size w w1) := HB.out.trans (hb.mono HB.out.size)
    clear hb K
    go_wp2_with fail
    go_ret2
    exact ⟨rfl, HB.out⟩
end Go.Proofs.Ytblcojacmjbjcab
