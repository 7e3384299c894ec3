/-
  The contract of the reference's numbers of a line, for every board, every side and every line.
-/
import Derived.Test.YtfjpdopljmilpaaSpecLine
import Derived.Deep.RegionWith
namespace Go.Proofs.Ytfjpdopljmilpaa
open Go.RowKit Plain
attribute [local go_sem] store_new


set_option maxHeartbeats 1000000 in
theorem l2Numbers_0 (f : Nat → Int) (i : Nat) (w : World) (hi : i < 4) :
    Calls Try.prog 237 #[.agg (mk 16 f), .int .i64 0, .int .i64 i] w fun e w' => e = .returned (.agg (mk 4 (lineF f 0 i))) ∧ Below w.heap.size w w' := by
  have z8 := zero8
  have z4 := zero4
  have K1 := (Blk.new w 16 f 26).alloc (.cells (mk 4 fun _ => 0) 22)
  have K2 := Blk.new (w.alloc (.cells (mk 16 f) 26)) 4 (fun _ => 0) 22
  have HB := Lib.hid (((Below.refl w.heap.size w).alloc (Nat.le_refl _) (.cells (mk 16 f) 26)).alloc (by simp) (.cells (mk 4 fun _ => 0) 22))
  simp only [World.size_alloc] at K2
  go_enter Try.func237, Try.ntmps237
  go_wp2_with fail
  refine (l2Line_0 i _ hi).mono ?_
  rintro e w1 ⟨rfl, hb1⟩
  have k1 := ((K1.below hb1 (by simp; omega)).alloc (.cells (mk 8 fun _ => 0) 227)).alloc (.cells (mk 4 fun _ => 0) 22)
  have k2 := ((K2.below hb1 (by simp)).alloc (.cells (mk 8 fun _ => 0) 227)).alloc (.cells (mk 4 fun _ => 0) 22)
  have k7 := (Blk.new w1 8 (fun _ => 0) 227).alloc (.cells (mk 4 fun _ => 0) 22)
  have k8 := Blk.new (w1.alloc (.cells (mk 8 fun _ => 0) 227)) 4 (fun _ => 0) 22
  simp only [World.size_alloc] at k8
  have hs1 : w.heap.size + 2 ≤ w1.heap.size := by have := hb1.size; simp at this; omega
  have HB1 : Hid (Below w.heap.size w ((w1.alloc (.cells (mk 8 fun _ => 0) 227)).alloc (.cells (mk 4 fun _ => 0) 22))) := ((HB.out.trans (hb1.mono HB.out.size)).alloc (by omega) _).alloc (by simp; omega) _
  clear hb1 HB K1 K2
  go_wp2_with (first | ((with_reducible show wpList _ _ _ (Oper.mk _ (Op.store 227 _ _) _ _ _ _ :: _) _ _); refine storeL (k7) rfl rfl rfl rfl ?_) | ((with_reducible show wpList _ _ _ (Oper.mk _ (Op.store 22 _ _) _ _ _ _ :: _) _ _); refine storeR (k8.rowOther _ _ (by omega)) rfl rfl rfl rfl ?_))
  have k1 := (k1.rowOther w1.heap.size (mk 8 (lineV 0 i)) (by omega)).rowOther (w1.heap.size + 1) (mk 4 fun _ => 0) (by omega)
  have k2 := (k2.rowOther w1.heap.size (mk 8 (lineV 0 i)) (by omega)).rowOther (w1.heap.size + 1) (mk 4 fun _ => 0) (by omega)
  have k7 := (k7.row 8 (lineV 0 i)).rowOther (w1.heap.size + 1) (mk 4 fun _ => 0) (by omega)
  have k8 := (k8.rowOther w1.heap.size (mk 8 (lineV 0 i)) (by omega)).row 4 (fun _ => 0)
  have HB2 : Hid (Below w.heap.size w ((((w1.alloc (.cells (mk 8 fun _ => 0) 227)).alloc (.cells (mk 4 fun _ => 0) 22)).setRow w1.heap.size (mk 8 (lineV 0 i))).setRow (w1.heap.size + 1) (mk 4 fun _ => 0))) := below_setRow (below_setRow HB1.out (by omega) _) (by omega) _
  clear HB1
  generalize (((w1.alloc (.cells (mk 8 fun _ => 0) 227)).alloc (.cells (mk 4 fun _ => 0) 22)).setRow w1.heap.size (mk 8 (lineV 0 i))).setRow (w1.heap.size + 1) (mk 4 fun _ => 0) = w2 at *
  go_loopg [9] 4 (fun g s9 wr => ∃ k : Nat, k + g = 4 ∧ s9 = .int .i64 k ∧ Blk wr w.heap.size 16 f 26 ∧ Blk wr (w.heap.size + 1) 4 (fun _ => 0) 22 ∧ Blk wr w1.heap.size 8 (lineV 0 i) 227 ∧ Blk wr (w1.heap.size + 1) 4 (upto (lineF f 0 i) k) 22 ∧ Hid (Below w.heap.size w wr))
  case atStart => exact ⟨0, by omega, rfl, k1, k2, k7, k8.congr fun j _ => (upto_zero _ j).symm, HB2⟩
  case round =>
    obtain ⟨k, hkg, rfl, k1, k2, k7, k8, hb⟩ := hrel
    cases gk with
    | zero =>
      have hk : ¬ ((k : Int) < 4) := by omega
      have HK : Hid (k = 4) := by show k = 4; omega
      clear hkg
      go_wp2_with (first | ((with_reducible show wpList _ _ _ (Oper.mk _ (Op.load 22 _) _ _ _ _ :: _) _ _); refine loadR (k8) rfl rfl rfl ?_) | ((with_reducible show wpList _ _ _ (Oper.mk _ (Op.store 22 _ _) _ _ _ _ :: _) _ _); refine storeR (k2) rfl rfl rfl rfl ?_))
      try simp only [Exit.inBlock, Exit.then]
      refine retcR (k2.row 4 _) rfl rfl rfl ⟨?_, below_setRow hb.out (by omega) _⟩
      rw [HK.out, mk_congr (g := lineF f 0 i) (fun j hj => upto_all hj)]
    | succ g =>
      have hk : (k : Int) < 4 := by omega
      have hk0 : (0 : Int) ≤ (k : Int) := by omega
      have hk4 : k < 4 := by omega
      have hp := pos_lt (d := 0) hi hk4
      have HR : Hid (lineV 0 i (k * 2) = ((pos 0 i k / 4 : Nat) : Int)) := lineV_row 0 i k
      have HC : Hid (lineV 0 i (k * 2 + 1) = ((pos 0 i k % 4 : Nat) : Int)) := lineV_col 0 i k
      have HF : Hid (f (pos 0 i k / 4 * 4 + pos 0 i k % 4) = lineF f 0 i k) := by show _ = f (pos 0 i k); congr 1; omega
      have a0 := k1.cell (i := 0) (by omega)
      have a1 := k1.cell (i := 1) (by omega)
      have a2 := k1.cell (i := 2) (by omega)
      have a3 := k1.cell (i := 3) (by omega)
      have a4 := k1.cell (i := 4) (by omega)
      have a5 := k1.cell (i := 5) (by omega)
      have a6 := k1.cell (i := 6) (by omega)
      have a7 := k1.cell (i := 7) (by omega)
      have a8 := k1.cell (i := 8) (by omega)
      have a9 := k1.cell (i := 9) (by omega)
      have a10 := k1.cell (i := 10) (by omega)
      have a11 := k1.cell (i := 11) (by omega)
      have a12 := k1.cell (i := 12) (by omega)
      have a13 := k1.cell (i := 13) (by omega)
      have a14 := k1.cell (i := 14) (by omega)
      have a15 := k1.cell (i := 15) (by omega)
      have b0 := k7.cell (i := k * 2) (by omega)
      have b1 := k7.cell (i := k * 2 + 1) (by omega)
      have e16 : (#[.int .i64 (f 0), .int .i64 (f 1), .int .i64 (f 2), .int .i64 (f 3), .int .i64 (f 4), .int .i64 (f 5), .int .i64 (f 6), .int .i64 (f 7), .int .i64 (f 8), .int .i64 (f 9), .int .i64 (f 10), .int .i64 (f 11), .int .i64 (f 12), .int .i64 (f 13), .int .i64 (f 14), .int .i64 (f 15)] : Array Value) = mk 16 f := rfl
      have e2 : (#[.int .i64 (lineV 0 i (k * 2)), .int .i64 (lineV 0 i (k * 2 + 1))] : Array Value) = mk 2 (two (lineV 0 i (k * 2)) (lineV 0 i (k * 2 + 1))) := rfl
      clear z4 z8
      go_wp2_with fail
      go_region_with ((go_at_call 197; refine (l2At_any _ _ (pos 0 i k / 4) (pos 0 i k % 4) _ HR.out HC.out (by omega) (by omega)).mono ?_; rintro e w3 ⟨rfl, hb3⟩; have c8 := (k8.drew.below hb3 k8.lt).cell (i := k) (by omega); have f8 := (k8.drew.below hb3 k8.lt).free k))
      all_goals
        have k1 := k1.drew.below hb3 k1.lt
        have k2 := k2.drew.below hb3 k2.lt
        have k7 := k7.drew.below hb3 k7.lt
        have k8 := k8.drew.below hb3 k8.lt
        have HB3 : Hid (Below w.heap.size w w3) := hb.out.drew.trans (hb3.mono hb.out.size)
        clear hb3 a0 a1 a2 a3 a4 a5 a6 a7 a8 a9 a10 a11 a12 a13 a14 a15 b0 b1 e16 e2 hb
        rw [HF.out]
        go_wp2_with fail
        go_roundg g
        case rel => exact ⟨k + 1, by omega, by go_num, k1.setOther _ _ (by dsimp only; omega), k2.setOther _ _ (by dsimp only; omega), k7.setOther _ _ (by dsimp only; omega), (k8.set (by omega) _).congr fun j _ => upto_step _ k j, HB3.out.setCell (by dsimp only; omega) _⟩
        case measure => omega
set_option maxHeartbeats 1000000 in
theorem l2Numbers_1 (f : Nat → Int) (i : Nat) (w : World) (hi : i < 4) :
    Calls Try.prog 237 #[.agg (mk 16 f), .int .i64 1, .int .i64 i] w fun e w' => e = .returned (.agg (mk 4 (lineF f 1 i))) ∧ Below w.heap.size w w' := by
  have z8 := zero8
  have z4 := zero4
  have K1 := (Blk.new w 16 f 26).alloc (.cells (mk 4 fun _ => 0) 22)
  have K2 := Blk.new (w.alloc (.cells (mk 16 f) 26)) 4 (fun _ => 0) 22
  have HB := Lib.hid (((Below.refl w.heap.size w).alloc (Nat.le_refl _) (.cells (mk 16 f) 26)).alloc (by simp) (.cells (mk 4 fun _ => 0) 22))
  simp only [World.size_alloc] at K2
  go_enter Try.func237, Try.ntmps237
  go_wp2_with fail
  refine (l2Line_1 i _ hi).mono ?_
  rintro e w1 ⟨rfl, hb1⟩
  have k1 := ((K1.below hb1 (by simp; omega)).alloc (.cells (mk 8 fun _ => 0) 227)).alloc (.cells (mk 4 fun _ => 0) 22)
  have k2 := ((K2.below hb1 (by simp)).alloc (.cells (mk 8 fun _ => 0) 227)).alloc (.cells (mk 4 fun _ => 0) 22)
  have k7 := (Blk.new w1 8 (fun _ => 0) 227).alloc (.cells (mk 4 fun _ => 0) 22)
  have k8 := Blk.new (w1.alloc (.cells (mk 8 fun _ => 0) 227)) 4 (fun _ => 0) 22
  simp only [World.size_alloc] at k8
  have hs1 : w.heap.size + 2 ≤ w1.heap.size := by have := hb1.size; simp at this; omega
  have HB1 : Hid (Below w.heap.size w ((w1.alloc (.cells (mk 8 fun _ => 0) 227)).alloc (.cells (mk 4 fun _ => 0) 22))) := ((HB.out.trans (hb1.mono HB.out.size)).alloc (by omega) _).alloc (by simp; omega) _
  clear hb1 HB K1 K2
  go_wp2_with (first | ((with_reducible show wpList _ _ _ (Oper.mk _ (Op.store 227 _ _) _ _ _ _ :: _) _ _); refine storeL (k7) rfl rfl rfl rfl ?_) | ((with_reducible show wpList _ _ _ (Oper.mk _ (Op.store 22 _ _) _ _ _ _ :: _) _ _); refine storeR (k8.rowOther _ _ (by omega)) rfl rfl rfl rfl ?_))
  have k1 := (k1.rowOther w1.heap.size (mk 8 (lineV 1 i)) (by omega)).rowOther (w1.heap.size + 1) (mk 4 fun _ => 0) (by omega)
  have k2 := (k2.rowOther w1.heap.size (mk 8 (lineV 1 i)) (by omega)).rowOther (w1.heap.size + 1) (mk 4 fun _ => 0) (by omega)
  have k7 := (k7.row 8 (lineV 1 i)).rowOther (w1.heap.size + 1) (mk 4 fun _ => 0) (by omega)
  have k8 := (k8.rowOther w1.heap.size (mk 8 (lineV 1 i)) (by omega)).row 4 (fun _ => 0)
  have HB2 : Hid (Below w.heap.size w ((((w1.alloc (.cells (mk 8 fun _ => 0) 227)).alloc (.cells (mk 4 fun _ => 0) 22)).setRow w1.heap.size (mk 8 (lineV 1 i))).setRow (w1.heap.size + 1) (mk 4 fun _ => 0))) := below_setRow (below_setRow HB1.out (by omega) _) (by omega) _
  clear HB1
  generalize (((w1.alloc (.cells (mk 8 fun _ => 0) 227)).alloc (.cells (mk 4 fun _ => 0) 22)).setRow w1.heap.size (mk 8 (lineV 1 i))).setRow (w1.heap.size + 1) (mk 4 fun _ => 0) = w2 at *
  go_loopg [9] 4 (fun g s9 wr => ∃ k : Nat, k + g = 4 ∧ s9 = .int .i64 k ∧ Blk wr w.heap.size 16 f 26 ∧ Blk wr (w.heap.size + 1) 4 (fun _ => 0) 22 ∧ Blk wr w1.heap.size 8 (lineV 1 i) 227 ∧ Blk wr (w1.heap.size + 1) 4 (upto (lineF f 1 i) k) 22 ∧ Hid (Below w.heap.size w wr))
  case atStart => exact ⟨0, by omega, rfl, k1, k2, k7, k8.congr fun j _ => (upto_zero _ j).symm, HB2⟩
  case round =>
    obtain ⟨k, hkg, rfl, k1, k2, k7, k8, hb⟩ := hrel
    cases gk with
    | zero =>
      have hk : ¬ ((k : Int) < 4) := by omega
      have HK : Hid (k = 4) := by show k = 4; omega
      clear hkg
      go_wp2_with (first | ((with_reducible show wpList _ _ _ (Oper.mk _ (Op.load 22 _) _ _ _ _ :: _) _ _); refine loadR (k8) rfl rfl rfl ?_) | ((with_reducible show wpList _ _ _ (Oper.mk _ (Op.store 22 _ _) _ _ _ _ :: _) _ _); refine storeR (k2) rfl rfl rfl rfl ?_))
      try simp only [Exit.inBlock, Exit.then]
      refine retcR (k2.row 4 _) rfl rfl rfl ⟨?_, below_setRow hb.out (by omega) _⟩
      rw [HK.out, mk_congr (g := lineF f 1 i) (fun j hj => upto_all hj)]
    | succ g =>
      have hk : (k : Int) < 4 := by omega
      have hk0 : (0 : Int) ≤ (k : Int) := by omega
      have hk4 : k < 4 := by omega
      have hp := pos_lt (d := 1) hi hk4
      have HR : Hid (lineV 1 i (k * 2) = ((pos 1 i k / 4 : Nat) : Int)) := lineV_row 1 i k
      have HC : Hid (lineV 1 i (k * 2 + 1) = ((pos 1 i k % 4 : Nat) : Int)) := lineV_col 1 i k
      have HF : Hid (f (pos 1 i k / 4 * 4 + pos 1 i k % 4) = lineF f 1 i k) := by show _ = f (pos 1 i k); congr 1; omega
      have a0 := k1.cell (i := 0) (by omega)
      have a1 := k1.cell (i := 1) (by omega)
      have a2 := k1.cell (i := 2) (by omega)
      have a3 := k1.cell (i := 3) (by omega)
      have a4 := k1.cell (i := 4) (by omega)
      have a5 := k1.cell (i := 5) (by omega)
      have a6 := k1.cell (i := 6) (by omega)
      have a7 := k1.cell (i := 7) (by omega)
      have a8 := k1.cell (i := 8) (by omega)
      have a9 := k1.cell (i := 9) (by omega)
      have a10 := k1.cell (i := 10) (by omega)
      have a11 := k1.cell (i := 11) (by omega)
      have a12 := k1.cell (i := 12) (by omega)
      have a13 := k1.cell (i := 13) (by omega)
      have a14 := k1.cell (i := 14) (by omega)
      have a15 := k1.cell (i := 15) (by omega)
      have b0 := k7.cell (i := k * 2) (by omega)
      have b1 := k7.cell (i := k * 2 + 1) (by omega)
      have e16 : (#[.int .i64 (f 0), .int .i64 (f 1), .int .i64 (f 2), .int .i64 (f 3), .int .i64 (f 4), .int .i64 (f 5), .int .i64 (f 6), .int .i64 (f 7), .int .i64 (f 8), .int .i64 (f 9), .int .i64 (f 10), .int .i64 (f 11), .int .i64 (f 12), .int .i64 (f 13), .int .i64 (f 14), .int .i64 (f 15)] : Array Value) = mk 16 f := rfl
      have e2 : (#[.int .i64 (lineV 1 i (k * 2)), .int .i64 (lineV 1 i (k * 2 + 1))] : Array Value) = mk 2 (two (lineV 1 i (k * 2)) (lineV 1 i (k * 2 + 1))) := rfl
      clear z4 z8
      go_wp2_with fail
      go_region_with ((go_at_call 197; refine (l2At_any _ _ (pos 1 i k / 4) (pos 1 i k % 4) _ HR.out HC.out (by omega) (by omega)).mono ?_; rintro e w3 ⟨rfl, hb3⟩; have c8 := (k8.drew.below hb3 k8.lt).cell (i := k) (by omega); have f8 := (k8.drew.below hb3 k8.lt).free k))
      all_goals
        have k1 := k1.drew.below hb3 k1.lt
        have k2 := k2.drew.below hb3 k2.lt
        have k7 := k7.drew.below hb3 k7.lt
        have k8 := k8.drew.below hb3 k8.lt
        have HB3 : Hid (Below w.heap.size w w3) := hb.out.drew.trans (hb3.mono hb.out.size)
        clear hb3 a0 a1 a2 a3 a4 a5 a6 a7 a8 a9 a10 a11 a12 a13 a14 a15 b0 b1 e16 e2 hb
        rw [HF.out]
        go_wp2_with fail
        go_roundg g
        case rel => exact ⟨k + 1, by omega, by go_num, k1.setOther _ _ (by dsimp only; omega), k2.setOther _ _ (by dsimp only; omega), k7.setOther _ _ (by dsimp only; omega), (k8.set (by omega) _).congr fun j _ => upto_step _ k j, HB3.out.setCell (by dsimp only; omega) _⟩
        case measure => omega
set_option maxHeartbeats 1000000 in
theorem l2Numbers_2 (f : Nat → Int) (i : Nat) (w : World) (hi : i < 4) :
    Calls Try.prog 237 #[.agg (mk 16 f), .int .i64 2, .int .i64 i] w fun e w' => e = .returned (.agg (mk 4 (lineF f 2 i))) ∧ Below w.heap.size w w' := by
  have z8 := zero8
  have z4 := zero4
  have K1 := (Blk.new w 16 f 26).alloc (.cells (mk 4 fun _ => 0) 22)
  have K2 := Blk.new (w.alloc (.cells (mk 16 f) 26)) 4 (fun _ => 0) 22
  have HB := Lib.hid (((Below.refl w.heap.size w).alloc (Nat.le_refl _) (.cells (mk 16 f) 26)).alloc (by simp) (.cells (mk 4 fun _ => 0) 22))
  simp only [World.size_alloc] at K2
  go_enter Try.func237, Try.ntmps237
  go_wp2_with fail
  refine (l2Line_2 i _ hi).mono ?_
  rintro e w1 ⟨rfl, hb1⟩
  have k1 := ((K1.below hb1 (by simp; omega)).alloc (.cells (mk 8 fun _ => 0) 227)).alloc (.cells (mk 4 fun _ => 0) 22)
  have k2 := ((K2.below hb1 (by simp)).alloc (.cells (mk 8 fun _ => 0) 227)).alloc (.cells (mk 4 fun _ => 0) 22)
  have k7 := (Blk.new w1 8 (fun _ => 0) 227).alloc (.cells (mk 4 fun _ => 0) 22)
  have k8 := Blk.new (w1.alloc (.cells (mk 8 fun _ => 0) 227)) 4 (fun _ => 0) 22
  simp only [World.size_alloc] at k8
  have hs1 : w.heap.size + 2 ≤ w1.heap.size := by have := hb1.size; simp at this; omega
  have HB1 : Hid (Below w.heap.size w ((w1.alloc (.cells (mk 8 fun _ => 0) 227)).alloc (.cells (mk 4 fun _ => 0) 22))) := ((HB.out.trans (hb1.mono HB.out.size)).alloc (by omega) _).alloc (by simp; omega) _
  clear hb1 HB K1 K2
  go_wp2_with (first | ((with_reducible show wpList _ _ _ (Oper.mk _ (Op.store 227 _ _) _ _ _ _ :: _) _ _); refine storeL (k7) rfl rfl rfl rfl ?_) | ((with_reducible show wpList _ _ _ (Oper.mk _ (Op.store 22 _ _) _ _ _ _ :: _) _ _); refine storeR (k8.rowOther _ _ (by omega)) rfl rfl rfl rfl ?_))
  have k1 := (k1.rowOther w1.heap.size (mk 8 (lineV 2 i)) (by omega)).rowOther (w1.heap.size + 1) (mk 4 fun _ => 0) (by omega)
  have k2 := (k2.rowOther w1.heap.size (mk 8 (lineV 2 i)) (by omega)).rowOther (w1.heap.size + 1) (mk 4 fun _ => 0) (by omega)
  have k7 := (k7.row 8 (lineV 2 i)).rowOther (w1.heap.size + 1) (mk 4 fun _ => 0) (by omega)
  have k8 := (k8.rowOther w1.heap.size (mk 8 (lineV 2 i)) (by omega)).row 4 (fun _ => 0)
  have HB2 : Hid (Below w.heap.size w ((((w1.alloc (.cells (mk 8 fun _ => 0) 227)).alloc (.cells (mk 4 fun _ => 0) 22)).setRow w1.heap.size (mk 8 (lineV 2 i))).setRow (w1.heap.size + 1) (mk 4 fun _ => 0))) := below_setRow (below_setRow HB1.out (by omega) _) (by omega) _
  clear HB1
  generalize (((w1.alloc (.cells (mk 8 fun _ => 0) 227)).alloc (.cells (mk 4 fun _ => 0) 22)).setRow w1.heap.size (mk 8 (lineV 2 i))).setRow (w1.heap.size + 1) (mk 4 fun _ => 0) = w2 at *
  go_loopg [9] 4 (fun g s9 wr => ∃ k : Nat, k + g = 4 ∧ s9 = .int .i64 k ∧ Blk wr w.heap.size 16 f 26 ∧ Blk wr (w.heap.size + 1) 4 (fun _ => 0) 22 ∧ Blk wr w1.heap.size 8 (lineV 2 i) 227 ∧ Blk wr (w1.heap.size + 1) 4 (upto (lineF f 2 i) k) 22 ∧ Hid (Below w.heap.size w wr))
  case atStart => exact ⟨0, by omega, rfl, k1, k2, k7, k8.congr fun j _ => (upto_zero _ j).symm, HB2⟩
  case round =>
    obtain ⟨k, hkg, rfl, k1, k2, k7, k8, hb⟩ := hrel
    cases gk with
    | zero =>
      have hk : ¬ ((k : Int) < 4) := by omega
      have HK : Hid (k = 4) := by show k = 4; omega
      clear hkg
      go_wp2_with (first | ((with_reducible show wpList _ _ _ (Oper.mk _ (Op.load 22 _) _ _ _ _ :: _) _ _); refine loadR (k8) rfl rfl rfl ?_) | ((with_reducible show wpList _ _ _ (Oper.mk _ (Op.store 22 _ _) _ _ _ _ :: _) _ _); refine storeR (k2) rfl rfl rfl rfl ?_))
      try simp only [Exit.inBlock, Exit.then]
      refine retcR (k2.row 4 _) rfl rfl rfl ⟨?_, below_setRow hb.out (by omega) _⟩
      rw [HK.out, mk_congr (g := lineF f 2 i) (fun j hj => upto_all hj)]
    | succ g =>
      have hk : (k : Int) < 4 := by omega
      have hk0 : (0 : Int) ≤ (k : Int) := by omega
      have hk4 : k < 4 := by omega
      have hp := pos_lt (d := 2) hi hk4
      have HR : Hid (lineV 2 i (k * 2) = ((pos 2 i k / 4 : Nat) : Int)) := lineV_row 2 i k
      have HC : Hid (lineV 2 i (k * 2 + 1) = ((pos 2 i k % 4 : Nat) : Int)) := lineV_col 2 i k
      have HF : Hid (f (pos 2 i k / 4 * 4 + pos 2 i k % 4) = lineF f 2 i k) := by show _ = f (pos 2 i k); congr 1; omega
      have a0 := k1.cell (i := 0) (by omega)
      have a1 := k1.cell (i := 1) (by omega)
      have a2 := k1.cell (i := 2) (by omega)
      have a3 := k1.cell (i := 3) (by omega)
      have a4 := k1.cell (i := 4) (by omega)
      have a5 := k1.cell (i := 5) (by omega)
      have a6 := k1.cell (i := 6) (by omega)
      have a7 := k1.cell (i := 7) (by omega)
      have a8 := k1.cell (i := 8) (by omega)
      have a9 := k1.cell (i := 9) (by omega)
      have a10 := k1.cell (i := 10) (by omega)
      have a11 := k1.cell (i := 11) (by omega)
      have a12 := k1.cell (i := 12) (by omega)
      have a13 := k1.cell (i := 13) (by omega)
      have a14 := k1.cell (i := 14) (by omega)
      have a15 := k1.cell (i := 15) (by omega)
      have b0 := k7.cell (i := k * 2) (by omega)
      have b1 := k7.cell (i := k * 2 + 1) (by omega)
      have e16 : (#[.int .i64 (f 0), .int .i64 (f 1), .int .i64 (f 2), .int .i64 (f 3), .int .i64 (f 4), .int .i64 (f 5), .int .i64 (f 6), .int .i64 (f 7), .int .i64 (f 8), .int .i64 (f 9), .int .i64 (f 10), .int .i64 (f 11), .int .i64 (f 12), .int .i64 (f 13), .int .i64 (f 14), .int .i64 (f 15)] : Array Value) = mk 16 f := rfl
      have e2 : (#[.int .i64 (lineV 2 i (k * 2)), .int .i64 (lineV 2 i (k * 2 + 1))] : Array Value) = mk 2 (two (lineV 2 i (k * 2)) (lineV 2 i (k * 2 + 1))) := rfl
      clear z4 z8
      go_wp2_with fail
      go_region_with ((go_at_call 197; refine (l2At_any _ _ (pos 2 i k / 4) (pos 2 i k % 4) _ HR.out HC.out (by omega) (by omega)).mono ?_; rintro e w3 ⟨rfl, hb3⟩; have c8 := (k8.drew.below hb3 k8.lt).cell (i := k) (by omega); have f8 := (k8.drew.below hb3 k8.lt).free k))
      all_goals
        have k1 := k1.drew.below hb3 k1.lt
        have k2 := k2.drew.below hb3 k2.lt
        have k7 := k7.drew.below hb3 k7.lt
        have k8 := k8.drew.below hb3 k8.lt
        have HB3 : Hid (Below w.heap.size w w3) := hb.out.drew.trans (hb3.mono hb.out.size)
        clear hb3 a0 a1 a2 a3 a4 a5 a6 a7 a8 a9 a10 a11 a12 a13 a14 a15 b0 b1 e16 e2 hb
        rw [HF.out]
        go_wp2_with fail
        go_roundg g
        case rel => exact ⟨k + 1, by omega, by go_num, k1.setOther _ _ (by dsimp only; omega), k2.setOther _ _ (by dsimp only; omega), k7.setOther _ _ (by dsimp only; omega), (k8.set (by omega) _).congr fun j _ => upto_step _ k j, HB3.out.setCell (by dsimp only; omega) _⟩
        case measure => omega
set_option maxHeartbeats 1000000 in
theorem l2Numbers_3 (f : Nat → Int) (i : Nat) (w : World) (hi : i < 4) :
    Calls Try.prog 237 #[.agg (mk 16 f), .int .i64 3, .int .i64 i] w fun e w' => e = .returned (.agg (mk 4 (lineF f 3 i))) ∧ Below w.heap.size w w' := by
  have z8 := zero8
  have z4 := zero4
  have K1 := (Blk.new w 16 f 26).alloc (.cells (mk 4 fun _ => 0) 22)
  have K2 := Blk.new (w.alloc (.cells (mk 16 f) 26)) 4 (fun _ => 0) 22
  have HB := Lib.hid (((Below.refl w.heap.size w).alloc (Nat.le_refl _) (.cells (mk 16 f) 26)).alloc (by simp) (.cells (mk 4 fun _ => 0) 22))
  simp only [World.size_alloc] at K2
  go_enter Try.func237, Try.ntmps237
  go_wp2_with fail
  refine (l2Line_3 i _ hi).mono ?_
  rintro e w1 ⟨rfl, hb1⟩
  have k1 := ((K1.below hb1 (by simp; omega)).alloc (.cells (mk 8 fun _ => 0) 227)).alloc (.cells (mk 4 fun _ => 0) 22)
  have k2 := ((K2.below hb1 (by simp)).alloc (.cells (mk 8 fun _ => 0) 227)).alloc (.cells (mk 4 fun _ => 0) 22)
  have k7 := (Blk.new w1 8 (fun _ => 0) 227).alloc (.cells (mk 4 fun _ => 0) 22)
  have k8 := Blk.new (w1.alloc (.cells (mk 8 fun _ => 0) 227)) 4 (fun _ => 0) 22
  simp only [World.size_alloc] at k8
  have hs1 : w.heap.size + 2 ≤ w1.heap.size := by have := hb1.size; simp at this; omega
  have HB1 : Hid (Below w.heap.size w ((w1.alloc (.cells (mk 8 fun _ => 0) 227)).alloc (.cells (mk 4 fun _ => 0) 22))) := ((HB.out.trans (hb1.mono HB.out.size)).alloc (by omega) _).alloc (by simp; omega) _
  clear hb1 HB K1 K2
  go_wp2_with (first | ((with_reducible show wpList _ _ _ (Oper.mk _ (Op.store 227 _ _) _ _ _ _ :: _) _ _); refine storeL (k7) rfl rfl rfl rfl ?_) | ((with_reducible show wpList _ _ _ (Oper.mk _ (Op.store 22 _ _) _ _ _ _ :: _) _ _); refine storeR (k8.rowOther _ _ (by omega)) rfl rfl rfl rfl ?_))
  have k1 := (k1.rowOther w1.heap.size (mk 8 (lineV 3 i)) (by omega)).rowOther (w1.heap.size + 1) (mk 4 fun _ => 0) (by omega)
  have k2 := (k2.rowOther w1.heap.size (mk 8 (lineV 3 i)) (by omega)).rowOther (w1.heap.size + 1) (mk 4 fun _ => 0) (by omega)
  have k7 := (k7.row 8 (lineV 3 i)).rowOther (w1.heap.size + 1) (mk 4 fun _ => 0) (by omega)
  have k8 := (k8.rowOther w1.heap.size (mk 8 (lineV 3 i)) (by omega)).row 4 (fun _ => 0)
  have HB2 : Hid (Below w.heap.size w ((((w1.alloc (.cells (mk 8 fun _ => 0) 227)).alloc (.cells (mk 4 fun _ => 0) 22)).setRow w1.heap.size (mk 8 (lineV 3 i))).setRow (w1.heap.size + 1) (mk 4 fun _ => 0))) := below_setRow (below_setRow HB1.out (by omega) _) (by omega) _
  clear HB1
  generalize (((w1.alloc (.cells (mk 8 fun _ => 0) 227)).alloc (.cells (mk 4 fun _ => 0) 22)).setRow w1.heap.size (mk 8 (lineV 3 i))).setRow (w1.heap.size + 1) (mk 4 fun _ => 0) = w2 at *
  go_loopg [9] 4 (fun g s9 wr => ∃ k : Nat, k + g = 4 ∧ s9 = .int .i64 k ∧ Blk wr w.heap.size 16 f 26 ∧ Blk wr (w.heap.size + 1) 4 (fun _ => 0) 22 ∧ Blk wr w1.heap.size 8 (lineV 3 i) 227 ∧ Blk wr (w1.heap.size + 1) 4 (upto (lineF f 3 i) k) 22 ∧ Hid (Below w.heap.size w wr))
  case atStart => exact ⟨0, by omega, rfl, k1, k2, k7, k8.congr fun j _ => (upto_zero _ j).symm, HB2⟩
  case round =>
    obtain ⟨k, hkg, rfl, k1, k2, k7, k8, hb⟩ := hrel
    cases gk with
    | zero =>
      have hk : ¬ ((k : Int) < 4) := by omega
      have HK : Hid (k = 4) := by show k = 4; omega
      clear hkg
      go_wp2_with (first | ((with_reducible show wpList _ _ _ (Oper.mk _ (Op.load 22 _) _ _ _ _ :: _) _ _); refine loadR (k8) rfl rfl rfl ?_) | ((with_reducible show wpList _ _ _ (Oper.mk _ (Op.store 22 _ _) _ _ _ _ :: _) _ _); refine storeR (k2) rfl rfl rfl rfl ?_))
      try simp only [Exit.inBlock, Exit.then]
      refine retcR (k2.row 4 _) rfl rfl rfl ⟨?_, below_setRow hb.out (by omega) _⟩
      rw [HK.out, mk_congr (g := lineF f 3 i) (fun j hj => upto_all hj)]
    | succ g =>
      have hk : (k : Int) < 4 := by omega
      have hk0 : (0 : Int) ≤ (k : Int) := by omega
      have hk4 : k < 4 := by omega
      have hp := pos_lt (d := 3) hi hk4
      have HR : Hid (lineV 3 i (k * 2) = ((pos 3 i k / 4 : Nat) : Int)) := lineV_row 3 i k
      have HC : Hid (lineV 3 i (k * 2 + 1) = ((pos 3 i k % 4 : Nat) : Int)) := lineV_col 3 i k
      have HF : Hid (f (pos 3 i k / 4 * 4 + pos 3 i k % 4) = lineF f 3 i k) := by show _ = f (pos 3 i k); congr 1; omega
      have a0 := k1.cell (i := 0) (by omega)
      have a1 := k1.cell (i := 1) (by omega)
      have a2 := k1.cell (i := 2) (by omega)
      have a3 := k1.cell (i := 3) (by omega)
      have a4 := k1.cell (i := 4) (by omega)
      have a5 := k1.cell (i := 5) (by omega)
      have a6 := k1.cell (i := 6) (by omega)
      have a7 := k1.cell (i := 7) (by omega)
      have a8 := k1.cell (i := 8) (by omega)
      have a9 := k1.cell (i := 9) (by omega)
      have a10 := k1.cell (i := 10) (by omega)
      have a11 := k1.cell (i := 11) (by omega)
      have a12 := k1.cell (i := 12) (by omega)
      have a13 := k1.cell (i := 13) (by omega)
      have a14 := k1.cell (i := 14) (by omega)
      have a15 := k1.cell (i := 15) (by omega)
      have b0 := k7.cell (i := k * 2) (by omega)
      have b1 := k7.cell (i := k * 2 + 1) (by omega)
      have e16 : (#[.int .i64 (f 0), .int .i64 (f 1), .int .i64 (f 2), .int .i64 (f 3), .int .i64 (f 4), .int .i64 (f 5), .int .i64 (f 6), .int .i64 (f 7), .int .i64 (f 8), .int .i64 (f 9), .int .i64 (f 10), .int .i64 (f 11), .int .i64 (f 12), .int .i64 (f 13), .int .i64 (f 14), .int .i64 (f 15)] : Array Value) = mk 16 f := rfl
      have e2 : (#[.int .i64 (lineV 3 i (k * 2)), .int .i64 (lineV 3 i (k * 2 + 1))] : Array Value) = mk 2 (two (lineV 3 i (k * 2)) (lineV 3 i (k * 2 + 1))) := rfl
      clear z4 z8
      go_wp2_with fail
      go_region_with ((go_at_call 197; refine (l2At_any _ _ (pos 3 i k / 4) (pos 3 i k % 4) _ HR.out HC.out (by omega) (by omega)).mono ?_; rintro e w3 ⟨rfl, hb3⟩; have c8 := (k8.drew.below hb3 k8.lt).cell (i := k) (by omega); have f8 := (k8.drew.below hb3 k8.lt).free k))
      all_goals
        have k1 := k1.drew.below hb3 k1.lt
        have k2 := k2.drew.below hb3 k2.lt
        have k7 := k7.drew.below hb3 k7.lt
        have k8 := k8.drew.below hb3 k8.lt
        have HB3 : Hid (Below w.heap.size w w3) := hb.out.drew.trans (hb3.mono hb.out.size)
        clear hb3 a0 a1 a2 a3 a4 a5 a6 a7 a8 a9 a10 a11 a12 a13 a14 a15 b0 b1 e16 e2 hb
        rw [HF.out]
        go_wp2_with fail
        go_roundg g
        case rel => exact ⟨k + 1, by omega, by go_num, k1.setOther _ _ (by dsimp only; omega), k2.setOther _ _ (by dsimp only; omega), k7.setOther _ _ (by dsimp only; omega), (k8.set (by omega) _).congr fun j _ => upto_step _ k j, HB3.out.setCell (by dsimp only; omega) _⟩
        case measure => omega


end Go.Proofs.Ytfjpdopljmilpaa
