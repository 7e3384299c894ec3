/-
  The contracts of the reference's cells of a line, of the number in a cell, and of a board with another number in a cell.
-/
import Derived.Test.YtmcmpedmgibmkabBaseA
import Derived.RegionTactic
import Derived.BigRegion
namespace Go.Proofs.Ytmcmpedmgibmkab
open Go.RowKit Plain
attribute [local go_sem] store_new

set_option maxHeartbeats 400000 in
theorem l2At_any (f g : Nat → Int) (r c : Nat) (w : World) (h0 : g 0 = r) (h1 : g 1 = c) (hr : r < 4) (hc : c < 4) :
    Calls Try.prog 49 #[.agg (mk 16 f), .agg (mk 2 g)] w fun e w' => e = .returned (.int .i64 (f (r * 4 + c))) ∧ Below w.heap.size w w' := by
  have K1 := (Blk.new w 16 f 35).alloc (.cells (mk 2 g) 22)
  have K2 := Blk.new (w.alloc (.cells (mk 16 f) 35)) 2 g 22
  have HB := Lib.hid (((Below.refl w.heap.size w).alloc (Nat.le_refl _) (.cells (mk 16 f) 35)).alloc (by simp) (.cells (mk 2 g) 22))
  simp only [World.size_alloc] at K2
  have hr0 : (0 : Int) ≤ (r : Int) := by omega
  have hr4 : (r : Int) < 4 := by omega
  have hc0 : (0 : Int) ≤ (c : Int) := by omega
  have hc4 : (c : Int) < 4 := by omega
  have a0 := K2.cell (i := 0) (by omega)
  have a1 := K2.cell (i := 1) (by omega)
  have a2 := K1.cell (i := r * 4 + c) (by omega)
  rw [h0] at a0
  rw [h1] at a1
  generalize f (r * 4 + c) = x at *
  clear h0 h1
  go_enter Try.func49, Try.ntmps49
  go_wp2_with fail
  generalize (w.alloc (.cells (mk 16 f) 35)).alloc (.cells (mk 2 g) 22) = w1 at *
  go_quiet (fail)
  go_wp2_with fail
  go_ret
  exact ⟨rfl, below_drewN HB.out _⟩
set_option maxHeartbeats 400000 in
theorem l2Put_any (f g : Nat → Int) (r c : Nat) (t : Int) (w : World) (h0 : g 0 = r) (h1 : g 1 = c) (hr : r < 4) (hc : c < 4) :
    Calls Try.prog 38 #[.agg (mk 16 f), .agg (mk 2 g), .int .i64 t] w fun e w' => e = .returned (.agg (mk 16 (upd f (r * 4 + c) t))) ∧ Below w.heap.size w w' := by
  have z16 := zero16
  have K1 := ((Blk.new w 16 f 35).alloc (.cells (mk 2 g) 22)).alloc (.cells (mk 16 fun _ => 0) 35)
  have K2 := (Blk.new (w.alloc (.cells (mk 16 f) 35)) 2 g 22).alloc (.cells (mk 16 fun _ => 0) 35)
  have K3 := Blk.new ((w.alloc (.cells (mk 16 f) 35)).alloc (.cells (mk 2 g) 22)) 16 (fun _ => 0) 35
  have HB := Lib.hid ((((Below.refl w.heap.size w).alloc (Nat.le_refl _) (.cells (mk 16 f) 35)).alloc (by simp) (.cells (mk 2 g) 22)).alloc (by simp; omega) (.cells (mk 16 fun _ => 0) 35))
  simp only [World.size_alloc] at K2 K3
  have hr0 : (0 : Int) ≤ (r : Int) := by omega
  have hr4 : (r : Int) < 4 := by omega
  have hc0 : (0 : Int) ≤ (c : Int) := by omega
  have hc4 : (c : Int) < 4 := by omega
  have a0 := K2.cell (i := 0) (by omega)
  have a1 := K2.cell (i := 1) (by omega)
  have a2 := K1.cell (i := r * 4 + c) (by omega)
  have f2 := K1.free (r * 4 + c)
  rw [h0] at a0
  rw [h1] at a1
  clear h0 h1
  go_enter Try.func38, Try.ntmps38
  go_wp2_with fail
  generalize ((w.alloc (.cells (mk 16 f) 35)).alloc (.cells (mk 2 g) 22)).alloc (.cells (mk 16 fun _ => 0) 35) = w1 at *
  go_region
  all_goals
    have k1 := (K1.drew.set (i := r * 4 + c) (by omega) t)
    have k3 := (K3.drew.setOther ⟨w.heap.size, r * 4 + c, none⟩ (.int .i64 t) (by dsimp only; omega))
    go_wp2_with (first | ((with_reducible show wpList _ _ _ (Oper.mk _ (Op.load 35 _) _ _ _ _ :: _) _ _); refine loadB (k1) rfl rfl rfl ?_) | ((with_reducible show wpList _ _ _ (Oper.mk _ (Op.store 35 _ _) _ _ _ _ :: _) _ _); refine storeB (k3) rfl rfl rfl rfl ?_))
    try simp only [Exit.inBlock, Exit.then]
    exact retcB (k3.row 16 _) rfl rfl rfl ⟨rfl, below_setRow (HB.out.drew.setCell (by dsimp only; omega) _) (by omega) _⟩
end Go.Proofs.Ytmcmpedmgibmkab
