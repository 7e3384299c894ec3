/-
  The contracts of the reference's cells of a line, of the number in a cell, and of a board with another number in a cell.
-/
import Derived.Test.YtfjpdopljmilpaaBaseA
import Derived.RegionTactic
import Derived.BigRegion
namespace Go.Proofs.Ytfjpdopljmilpaa
open Go.RowKit Plain
attribute [local go_sem] store_new

set_option maxHeartbeats 400000 in
theorem l2Line_0 (i : Nat) (w : World) (hi : i < 4) :
    Calls Try.prog 238 #[.int .i64 0, .int .i64 i] w fun e w' => e = .returned (.agg (mk 8 (lineV 0 i))) ∧ Below w.heap.size w w' := by
  have z8 := zero8
  have K1 := (Blk.new w 8 (fun _ => 0) 227).alloc (.cells (mk 8 fun _ => 0) 227)
  have K2 := Blk.new (w.alloc (.cells (mk 8 fun _ => 0) 227)) 8 (fun _ => 0) 227
  have HB := Lib.hid (((Below.refl w.heap.size w).alloc (Nat.le_refl _) (.cells (mk 8 fun _ => 0) 227)).alloc (by simp) (.cells (mk 8 fun _ => 0) 227))
  simp only [World.size_alloc] at K2
  have hi2 : (i : Int) < 4 := by omega
  go_enter Try.func238, Try.ntmps238
  go_wp2_with fail
  generalize (w.alloc (.cells (mk 8 fun _ => 0) 227)).alloc (.cells (mk 8 fun _ => 0) 227) = w1 at *
  go_loopg [6] 4 (fun g s6 wr => ∃ k : Nat, k + g = 4 ∧ s6 = .int .i64 k ∧ Blk wr w.heap.size 8 (fun _ => 0) 227 ∧ Blk wr (w.heap.size + 1) 8 (upto (lineV 0 i) (k * 2)) 227 ∧ Hid (Below w.heap.size w wr))
  case atStart => exact ⟨0, by omega, rfl, K1, K2.congr fun j _ => (upto_zero _ j).symm, HB⟩
  case round =>
    obtain ⟨k, hkg, rfl, k1, k2, hb⟩ := hrel
    cases gk with
    | zero =>
      have hk : ¬ ((k : Int) < 4) := by omega
      have HK : Hid (k = 4) := by show k = 4; omega
      clear hkg
      go_wp2_with (first | ((with_reducible show wpList _ _ _ (Oper.mk _ (Op.load 227 _) _ _ _ _ :: _) _ _); refine loadL (k2) rfl rfl rfl ?_) | ((with_reducible show wpList _ _ _ (Oper.mk _ (Op.store 227 _ _) _ _ _ _ :: _) _ _); refine storeL (k1) rfl rfl rfl rfl ?_))
      try simp only [Exit.inBlock, Exit.then]
      refine retcL (k1.row 8 _) rfl rfl rfl ⟨?_, below_setRow hb.out (by omega) _⟩
      rw [HK.out, mk_congr (g := lineV 0 i) (fun j hj => upto_all hj)]
    | succ g =>
      have hk : (k : Int) < 4 := by omega
      have hk4 : k < 4 := by omega
      go_wp2_with ((with_reducible show wpList _ _ _ (Oper.mk _ (Op.store 37 _ _) _ _ _ _ :: _) _ _); refine storePC (g := two _ _) (k2) (by omega) rfl rfl rfl rfl ?_)
      go_roundg g
      case rel =>
        refine ⟨k + 1, by omega, by go_num, k1.rowOther _ _ (by omega), (k2.row 8 _).congr fun j _ => ?_, below_setRow hb.out (by omega) _⟩
        rw [← upto_row (lineV 0 i) k 2 j]
        refine patch_congr _ _ _ (fun q hq => ?_) j
        rcases (by omega : q = 0 ∨ q = 1) with rfl | rfl
        · rw [Nat.add_zero, lineV_row, show pos 0 i k = i * 4 + k from rfl]
          show (i : Int) = _
          omega
        · rw [lineV_col, show pos 0 i k = i * 4 + k from rfl]
          show (k : Int) = _
          omega
      case measure => omega
set_option maxHeartbeats 400000 in
theorem l2Line_1 (i : Nat) (w : World) (hi : i < 4) :
    Calls Try.prog 238 #[.int .i64 1, .int .i64 i] w fun e w' => e = .returned (.agg (mk 8 (lineV 1 i))) ∧ Below w.heap.size w w' := by
  have z8 := zero8
  have K1 := (Blk.new w 8 (fun _ => 0) 227).alloc (.cells (mk 8 fun _ => 0) 227)
  have K2 := Blk.new (w.alloc (.cells (mk 8 fun _ => 0) 227)) 8 (fun _ => 0) 227
  have HB := Lib.hid (((Below.refl w.heap.size w).alloc (Nat.le_refl _) (.cells (mk 8 fun _ => 0) 227)).alloc (by simp) (.cells (mk 8 fun _ => 0) 227))
  simp only [World.size_alloc] at K2
  have hi2 : (i : Int) < 4 := by omega
  go_enter Try.func238, Try.ntmps238
  go_wp2_with fail
  generalize (w.alloc (.cells (mk 8 fun _ => 0) 227)).alloc (.cells (mk 8 fun _ => 0) 227) = w1 at *
  go_loopg [6] 4 (fun g s6 wr => ∃ k : Nat, k + g = 4 ∧ s6 = .int .i64 k ∧ Blk wr w.heap.size 8 (fun _ => 0) 227 ∧ Blk wr (w.heap.size + 1) 8 (upto (lineV 1 i) (k * 2)) 227 ∧ Hid (Below w.heap.size w wr))
  case atStart => exact ⟨0, by omega, rfl, K1, K2.congr fun j _ => (upto_zero _ j).symm, HB⟩
  case round =>
    obtain ⟨k, hkg, rfl, k1, k2, hb⟩ := hrel
    cases gk with
    | zero =>
      have hk : ¬ ((k : Int) < 4) := by omega
      have HK : Hid (k = 4) := by show k = 4; omega
      clear hkg
      go_wp2_with (first | ((with_reducible show wpList _ _ _ (Oper.mk _ (Op.load 227 _) _ _ _ _ :: _) _ _); refine loadL (k2) rfl rfl rfl ?_) | ((with_reducible show wpList _ _ _ (Oper.mk _ (Op.store 227 _ _) _ _ _ _ :: _) _ _); refine storeL (k1) rfl rfl rfl rfl ?_))
      try simp only [Exit.inBlock, Exit.then]
      refine retcL (k1.row 8 _) rfl rfl rfl ⟨?_, below_setRow hb.out (by omega) _⟩
      rw [HK.out, mk_congr (g := lineV 1 i) (fun j hj => upto_all hj)]
    | succ g =>
      have hk : (k : Int) < 4 := by omega
      have hk4 : k < 4 := by omega
      go_wp2_with ((with_reducible show wpList _ _ _ (Oper.mk _ (Op.store 37 _ _) _ _ _ _ :: _) _ _); refine storePC (g := two _ _) (k2) (by omega) rfl rfl rfl rfl ?_)
      go_roundg g
      case rel =>
        refine ⟨k + 1, by omega, by go_num, k1.rowOther _ _ (by omega), (k2.row 8 _).congr fun j _ => ?_, below_setRow hb.out (by omega) _⟩
        rw [← upto_row (lineV 1 i) k 2 j]
        refine patch_congr _ _ _ (fun q hq => ?_) j
        rcases (by omega : q = 0 ∨ q = 1) with rfl | rfl
        · rw [Nat.add_zero, lineV_row, show pos 1 i k = k * 4 + i from rfl]
          show (k : Int) = _
          omega
        · rw [lineV_col, show pos 1 i k = k * 4 + i from rfl]
          show (i : Int) = _
          omega
      case measure => omega
set_option maxHeartbeats 400000 in
theorem l2Line_2 (i : Nat) (w : World) (hi : i < 4) :
    Calls Try.prog 238 #[.int .i64 2, .int .i64 i] w fun e w' => e = .returned (.agg (mk 8 (lineV 2 i))) ∧ Below w.heap.size w w' := by
  have z8 := zero8
  have K1 := (Blk.new w 8 (fun _ => 0) 227).alloc (.cells (mk 8 fun _ => 0) 227)
  have K2 := Blk.new (w.alloc (.cells (mk 8 fun _ => 0) 227)) 8 (fun _ => 0) 227
  have HB := Lib.hid (((Below.refl w.heap.size w).alloc (Nat.le_refl _) (.cells (mk 8 fun _ => 0) 227)).alloc (by simp) (.cells (mk 8 fun _ => 0) 227))
  simp only [World.size_alloc] at K2
  have hi2 : (i : Int) < 4 := by omega
  go_enter Try.func238, Try.ntmps238
  go_wp2_with fail
  generalize (w.alloc (.cells (mk 8 fun _ => 0) 227)).alloc (.cells (mk 8 fun _ => 0) 227) = w1 at *
  go_loopg [6] 4 (fun g s6 wr => ∃ k : Nat, k + g = 4 ∧ s6 = .int .i64 k ∧ Blk wr w.heap.size 8 (fun _ => 0) 227 ∧ Blk wr (w.heap.size + 1) 8 (upto (lineV 2 i) (k * 2)) 227 ∧ Hid (Below w.heap.size w wr))
  case atStart => exact ⟨0, by omega, rfl, K1, K2.congr fun j _ => (upto_zero _ j).symm, HB⟩
  case round =>
    obtain ⟨k, hkg, rfl, k1, k2, hb⟩ := hrel
    cases gk with
    | zero =>
      have hk : ¬ ((k : Int) < 4) := by omega
      have HK : Hid (k = 4) := by show k = 4; omega
      clear hkg
      go_wp2_with (first | ((with_reducible show wpList _ _ _ (Oper.mk _ (Op.load 227 _) _ _ _ _ :: _) _ _); refine loadL (k2) rfl rfl rfl ?_) | ((with_reducible show wpList _ _ _ (Oper.mk _ (Op.store 227 _ _) _ _ _ _ :: _) _ _); refine storeL (k1) rfl rfl rfl rfl ?_))
      try simp only [Exit.inBlock, Exit.then]
      refine retcL (k1.row 8 _) rfl rfl rfl ⟨?_, below_setRow hb.out (by omega) _⟩
      rw [HK.out, mk_congr (g := lineV 2 i) (fun j hj => upto_all hj)]
    | succ g =>
      have hk : (k : Int) < 4 := by omega
      have hk4 : k < 4 := by omega
      go_wp2_with ((with_reducible show wpList _ _ _ (Oper.mk _ (Op.store 37 _ _) _ _ _ _ :: _) _ _); refine storePC (g := two _ _) (k2) (by omega) rfl rfl rfl rfl ?_)
      go_roundg g
      case rel =>
        refine ⟨k + 1, by omega, by go_num, k1.rowOther _ _ (by omega), (k2.row 8 _).congr fun j _ => ?_, below_setRow hb.out (by omega) _⟩
        rw [← upto_row (lineV 2 i) k 2 j]
        refine patch_congr _ _ _ (fun q hq => ?_) j
        rcases (by omega : q = 0 ∨ q = 1) with rfl | rfl
        · rw [Nat.add_zero, lineV_row, show pos 2 i k = i * 4 + (3 - k) from rfl]
          show (i : Int) = _
          omega
        · rw [lineV_col, show pos 2 i k = i * 4 + (3 - k) from rfl]
          show (3 - k : Int) = _
          omega
      case measure => omega
set_option maxHeartbeats 400000 in
theorem l2Line_3 (i : Nat) (w : World) (hi : i < 4) :
    Calls Try.prog 238 #[.int .i64 3, .int .i64 i] w fun e w' => e = .returned (.agg (mk 8 (lineV 3 i))) ∧ Below w.heap.size w w' := by
  have z8 := zero8
  have K1 := (Blk.new w 8 (fun _ => 0) 227).alloc (.cells (mk 8 fun _ => 0) 227)
  have K2 := Blk.new (w.alloc (.cells (mk 8 fun _ => 0) 227)) 8 (fun _ => 0) 227
  have HB := Lib.hid (((Below.refl w.heap.size w).alloc (Nat.le_refl _) (.cells (mk 8 fun _ => 0) 227)).alloc (by simp) (.cells (mk 8 fun _ => 0) 227))
  simp only [World.size_alloc] at K2
  have hi2 : (i : Int) < 4 := by omega
  go_enter Try.func238, Try.ntmps238
  go_wp2_with fail
  generalize (w.alloc (.cells (mk 8 fun _ => 0) 227)).alloc (.cells (mk 8 fun _ => 0) 227) = w1 at *
  go_loopg [6] 4 (fun g s6 wr => ∃ k : Nat, k + g = 4 ∧ s6 = .int .i64 k ∧ Blk wr w.heap.size 8 (fun _ => 0) 227 ∧ Blk wr (w.heap.size + 1) 8 (upto (lineV 3 i) (k * 2)) 227 ∧ Hid (Below w.heap.size w wr))
  case atStart => exact ⟨0, by omega, rfl, K1, K2.congr fun j _ => (upto_zero _ j).symm, HB⟩
  case round =>
    obtain ⟨k, hkg, rfl, k1, k2, hb⟩ := hrel
    cases gk with
    | zero =>
      have hk : ¬ ((k : Int) < 4) := by omega
      have HK : Hid (k = 4) := by show k = 4; omega
      clear hkg
      go_wp2_with (first | ((with_reducible show wpList _ _ _ (Oper.mk _ (Op.load 227 _) _ _ _ _ :: _) _ _); refine loadL (k2) rfl rfl rfl ?_) | ((with_reducible show wpList _ _ _ (Oper.mk _ (Op.store 227 _ _) _ _ _ _ :: _) _ _); refine storeL (k1) rfl rfl rfl rfl ?_))
      try simp only [Exit.inBlock, Exit.then]
      refine retcL (k1.row 8 _) rfl rfl rfl ⟨?_, below_setRow hb.out (by omega) _⟩
      rw [HK.out, mk_congr (g := lineV 3 i) (fun j hj => upto_all hj)]
    | succ g =>
      have hk : (k : Int) < 4 := by omega
      have hk4 : k < 4 := by omega
      go_wp2_with ((with_reducible show wpList _ _ _ (Oper.mk _ (Op.store 37 _ _) _ _ _ _ :: _) _ _); refine storePC (g := two _ _) (k2) (by omega) rfl rfl rfl rfl ?_)
      go_roundg g
      case rel =>
        refine ⟨k + 1, by omega, by go_num, k1.rowOther _ _ (by omega), (k2.row 8 _).congr fun j _ => ?_, below_setRow hb.out (by omega) _⟩
        rw [← upto_row (lineV 3 i) k 2 j]
        refine patch_congr _ _ _ (fun q hq => ?_) j
        rcases (by omega : q = 0 ∨ q = 1) with rfl | rfl
        · rw [Nat.add_zero, lineV_row, show pos 3 i k = (3 - k) * 4 + i from rfl]
          show (3 - k : Int) = _
          omega
        · rw [lineV_col, show pos 3 i k = (3 - k) * 4 + i from rfl]
          show (i : Int) = _
          omega
      case measure => omega

set_option maxHeartbeats 400000 in
theorem l2At_any (f g : Nat → Int) (r c : Nat) (w : World) (h0 : g 0 = r) (h1 : g 1 = c) (hr : r < 4) (hc : c < 4) :
    Calls Try.prog 197 #[.agg (mk 16 f), .agg (mk 2 g)] w fun e w' => e = .returned (.int .i64 (f (r * 4 + c))) ∧ Below w.heap.size w w' := by
  have K1 := (Blk.new w 16 f 26).alloc (.cells (mk 2 g) 37)
  have K2 := Blk.new (w.alloc (.cells (mk 16 f) 26)) 2 g 37
  have HB := Lib.hid (((Below.refl w.heap.size w).alloc (Nat.le_refl _) (.cells (mk 16 f) 26)).alloc (by simp) (.cells (mk 2 g) 37))
  simp only [World.size_alloc] at K2
  have hr0 : (0 : Int) ≤ (r : Int) := by omega
  have hr4 : (r : Int) < 4 := by omega
  have hc0 : (0 : Int) ≤ (c : Int) := by omega
  have hc4 : (c : Int) < 4 := by omega
  have a0 := K2.cell (i := 0) (by omega)
  have a1 := K2.cell (i := 1) (by omega)
  have a2 := K1.cell (i := r * 4 + c) (by omega)
  rw [h0] at a0
  rw [h1] at a1
  generalize f (r * 4 + c) = x at *
  clear h0 h1
  go_enter Try.func197, Try.ntmps197
  go_wp2_with fail
  generalize (w.alloc (.cells (mk 16 f) 26)).alloc (.cells (mk 2 g) 37) = w1 at *
  go_quiet (fail)
  go_wp2_with fail
  go_ret
  exact ⟨rfl, below_drewN HB.out _⟩
set_option maxHeartbeats 400000 in
theorem l2Put_any (f g : Nat → Int) (r c : Nat) (t : Int) (w : World) (h0 : g 0 = r) (h1 : g 1 = c) (hr : r < 4) (hc : c < 4) :
    Calls Try.prog 239 #[.agg (mk 16 f), .agg (mk 2 g), .int .i64 t] w fun e w' => e = .returned (.agg (mk 16 (upd f (r * 4 + c) t))) ∧ Below w.heap.size w w' := by
  have z16 := zero16
  have K1 := ((Blk.new w 16 f 26).alloc (.cells (mk 2 g) 37)).alloc (.cells (mk 16 fun _ => 0) 26)
  have K2 := (Blk.new (w.alloc (.cells (mk 16 f) 26)) 2 g 37).alloc (.cells (mk 16 fun _ => 0) 26)
  have K3 := Blk.new ((w.alloc (.cells (mk 16 f) 26)).alloc (.cells (mk 2 g) 37)) 16 (fun _ => 0) 26
  have HB := Lib.hid ((((Below.refl w.heap.size w).alloc (Nat.le_refl _) (.cells (mk 16 f) 26)).alloc (by simp) (.cells (mk 2 g) 37)).alloc (by simp; omega) (.cells (mk 16 fun _ => 0) 26))
  simp only [World.size_alloc] at K2 K3
  have hr0 : (0 : Int) ≤ (r : Int) := by omega
  have hr4 : (r : Int) < 4 := by omega
  have hc0 : (0 : Int) ≤ (c : Int) := by omega
  have hc4 : (c : Int) < 4 := by omega
  have a0 := K2.cell (i := 0) (by omega)
  have a1 := K2.cell (i := 1) (by omega)
  have a2 := K1.cell (i := r * 4 + c) (by omega)
  have f2 := K1.free (r * 4 + c)
  rw [h0] at a0
  rw [h1] at a1
  clear h0 h1
  go_enter Try.func239, Try.ntmps239
  go_wp2_with fail
  generalize ((w.alloc (.cells (mk 16 f) 26)).alloc (.cells (mk 2 g) 37)).alloc (.cells (mk 16 fun _ => 0) 26) = w1 at *
  go_region
  all_goals
    have k1 := (K1.drew.set (i := r * 4 + c) (by omega) t)
    have k3 := (K3.drew.setOther ⟨w.heap.size, r * 4 + c, none⟩ (.int .i64 t) (by dsimp only; omega))
    go_wp2_with (first | ((with_reducible show wpList _ _ _ (Oper.mk _ (Op.load 26 _) _ _ _ _ :: _) _ _); refine loadB (k1) rfl rfl rfl ?_) | ((with_reducible show wpList _ _ _ (Oper.mk _ (Op.store 26 _ _) _ _ _ _ :: _) _ _); refine storeB (k3) rfl rfl rfl rfl ?_))
    try simp only [Exit.inBlock, Exit.then]
    exact retcB (k3.row 16 _) rfl rfl rfl ⟨rfl, below_setRow (HB.out.drew.setCell (by dsimp only; omega) _) (by omega) _⟩
end Go.Proofs.Ytfjpdopljmilpaa
