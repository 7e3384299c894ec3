/-
  The contracts of the laws' own conversions and comparisons of boards, cells and rows. No condition.
-/
import Derived.Test.YtpiegllffkjneaaTypes
import Derived.Deep.RegionWith
namespace Go.Proofs.Ytpiegllffkjneaa
open Go.RowKit Plain
attribute [local go_sem] store_new

set_option maxHeartbeats 400000 in
theorem toIntA4_any (f : Nat → Int) (w : World) :
    Calls Try.prog 83 #[.agg (mk 4 f)] w fun e w' => e = .returned (.agg (mk 4 f)) ∧ Below w.heap.size w w' := by
  have z4 := zero4
  have z2 := zero2
  go_enter Try.func83, Try.ntmps83
  go_wp2_with fail
  have K1 := ((Blk.new w 4 f 24).alloc (.cells (mk 4 fun _ => 0) 24)).alloc (.cells (mk 4 fun _ => 0) 24)
  have K2 := (Blk.new (w.alloc (.cells (mk 4 f) 24)) 4 (fun _ => 0) 24).alloc (.cells (mk 4 fun _ => 0) 24)
  have K3 := Blk.new ((w.alloc (.cells (mk 4 f) 24)).alloc (.cells (mk 4 fun _ => 0) 24)) 4 (fun _ => 0) 24
  have HB := Lib.hid ((((Below.refl w.heap.size w).alloc (Nat.le_refl _) (.cells (mk 4 f) 24)).alloc (by simp) (.cells (mk 4 fun _ => 0) 24)).alloc (by simp; omega) (.cells (mk 4 fun _ => 0) 24))
  simp only [World.size_alloc] at K1 K2 K3
  generalize ((w.alloc (.cells (mk 4 f) 24)).alloc (.cells (mk 4 fun _ => 0) 24)).alloc (.cells (mk 4 fun _ => 0) 24) = w1 at *
  go_loopg [4] 4 (fun g s4 wr => ∃ r : Nat, r + g = 4 ∧ s4 = .int .i64 r ∧ Blk wr w.heap.size 4 f 24 ∧ Blk wr (w.heap.size + 1) 4 (fun _ => 0) 24 ∧ Blk wr (w.heap.size + 1 + 1) 4 (upto f r) 24 ∧ Hid (Below w.heap.size w wr))
  case atStart => exact ⟨0, by omega, rfl, K1, K2, K3.congr fun j _ => (upto_zero f j).symm, HB⟩
  case round =>
    obtain ⟨r, hrg, rfl, k1, k2, k3, hb⟩ := hrel
    cases gk with
    | zero =>
      have hr : ¬ ((r : Int) < 4) := by omega
      have HR : Hid (r = 4) := by show r = 4; omega
      clear hrg
      go_wp2_with (first | ((with_reducible show wpList _ _ _ (Oper.mk _ (Op.load 24 _) _ _ _ _ :: _) _ _); refine loadR (k3) rfl rfl rfl ?_) | ((with_reducible show wpList _ _ _ (Oper.mk _ (Op.store 24 _ _) _ _ _ _ :: _) _ _); refine storeR (k2) rfl rfl rfl rfl ?_))
      try simp only [Exit.inBlock, Exit.then]
      refine retcR (k2.row 4 _) rfl rfl rfl ⟨?_, below_setRow hb.out (by omega) _⟩
      rw [HR.out, mk_congr (g := f) (fun j hj => upto_all hj)]
    | succ g =>
      have hr4 : (r : Int) < 4 := by omega
      have c1 := k1.cell (i := r) (by omega)
      have c3 := k3.cell (i := r) (by omega)
      have f3 := k3.free r
      go_wp2_with fail
      go_roundg g
      case rel =>
        exact ⟨r + 1, by omega, by go_num, k1.setOther _ _ (by dsimp only; omega), k2.setOther _ _ (by dsimp only; omega), (k3.set (by omega) _).congr fun j _ => upto_step f r j, hb.out.setCell (by dsimp only; omega) _⟩
      case measure => omega

set_option maxHeartbeats 400000 in
theorem toIntA4A4_any (f : Nat → Int) (w : World) :
    Calls Try.prog 145 #[.agg (mk 16 f)] w fun e w' => e = .returned (.agg (mk 16 f)) ∧ Below w.heap.size w w' := by
  have z16 := zero16
  go_enter Try.func145, Try.ntmps145
  go_wp2_with fail
  have K1 := ((Blk.new w 16 f 25).alloc (.cells (mk 16 fun _ => 0) 25)).alloc (.cells (mk 16 fun _ => 0) 25)
  have K2 := (Blk.new (w.alloc (.cells (mk 16 f) 25)) 16 (fun _ => 0) 25).alloc (.cells (mk 16 fun _ => 0) 25)
  have K3 := Blk.new ((w.alloc (.cells (mk 16 f) 25)).alloc (.cells (mk 16 fun _ => 0) 25)) 16 (fun _ => 0) 25
  have HB := Lib.hid ((((Below.refl w.heap.size w).alloc (Nat.le_refl _) (.cells (mk 16 f) 25)).alloc (by simp) (.cells (mk 16 fun _ => 0) 25)).alloc (by simp; omega) (.cells (mk 16 fun _ => 0) 25))
  simp only [World.size_alloc] at K1 K2 K3
  generalize ((w.alloc (.cells (mk 16 f) 25)).alloc (.cells (mk 16 fun _ => 0) 25)).alloc (.cells (mk 16 fun _ => 0) 25) = w1 at *
  go_loopg [4] 4 (fun g s4 wr => ∃ r : Nat, r + g = 4 ∧ s4 = .int .i64 r ∧ Blk wr w.heap.size 16 f 25 ∧ Blk wr (w.heap.size + 1) 16 (fun _ => 0) 25 ∧ Blk wr (w.heap.size + 1 + 1) 16 (upto f (r * 4)) 25 ∧ Hid (Below w.heap.size w wr))
  case atStart => exact ⟨0, by omega, rfl, K1, K2, K3.congr fun j _ => (upto_zero f j).symm, HB⟩
  case round =>
    obtain ⟨r, hrg, rfl, k1, k2, k3, hb⟩ := hrel
    cases gk with
    | zero =>
      have hr : ¬ ((r : Int) < 4) := by omega
      have HR : Hid (r = 4) := by show r = 4; omega
      clear hrg
      go_wp2_with (first | ((with_reducible show wpList _ _ _ (Oper.mk _ (Op.load 25 _) _ _ _ _ :: _) _ _); refine loadG (k3) rfl rfl rfl ?_) | ((with_reducible show wpList _ _ _ (Oper.mk _ (Op.store 25 _ _) _ _ _ _ :: _) _ _); refine storeG (k2) rfl rfl rfl rfl ?_))
      try simp only [Exit.inBlock, Exit.then]
      refine retcG (k2.row 16 _) rfl rfl rfl ⟨?_, below_setRow hb.out (by omega) _⟩
      rw [HR.out, mk_congr (g := f) (fun j hj => upto_all hj)]
    | succ g =>
      have hr4 : (r : Int) < 4 := by omega
      go_wp2_with ((with_reducible show wpList _ _ _ (Oper.mk _ (Op.load 24 _) _ _ _ _ :: _) _ _); refine loadPR (k1) (by omega) rfl rfl rfl ?_)
      refine (toIntA4_any _ _).mono ?_
      rintro e w2 ⟨rfl, hb2⟩
      have l1 := k1.lt
      have l2 := k2.lt
      have l3 := k3.lt
      have k1 := k1.below hb2 l1
      have k2 := k2.below hb2 l2
      have k3 := k3.below hb2 l3
      have hb3 : Hid (Below w.heap.size w w2) := hb.out.trans (hb2.mono hb.out.size)
      clear hb2
      go_wp2_with ((with_reducible show wpList _ _ _ (Oper.mk _ (Op.store 24 _ _) _ _ _ _ :: _) _ _); refine storePR (k3) (by omega) rfl rfl rfl rfl ?_)
      go_roundg g
      case rel =>
        exact ⟨r + 1, by omega, by go_num, k1.rowOther _ _ (by omega), k2.rowOther _ _ (by omega), (k3.row 16 _).congr fun j _ => upto_row f r 4 j, below_setRow hb3.out (by omega) _⟩
      case measure => omega

set_option maxHeartbeats 400000 in
theorem toBoard_any (f : Nat → Int) (w : World) :
    Calls Try.prog 76 #[.agg (mk 16 f)] w fun e w' => e = .returned (.agg (mk 16 f)) ∧ Below w.heap.size w w' := by
  have z16 := zero16
  go_enter Try.func76, Try.ntmps76
  go_wp2_with ((with_reducible show wpList _ _ _ (Oper.mk _ (Op.load 25 _) _ _ _ _ :: _) _ _); refine loadG (((Blk.new _ _ _ _).alloc _).alloc _) rfl rfl rfl ?_)
  refine (toIntA4A4_any _ _).mono ?_
  rintro e w2 ⟨rfl, hb2⟩
  have K2 := (Blk.new (w.alloc (.cells (mk 16 f) 86)) 16 (fun _ => 0) 27).alloc (.cells (mk 16 fun _ => 0) 27)
  have K3 := Blk.new ((w.alloc (.cells (mk 16 f) 86)).alloc (.cells (mk 16 fun _ => 0) 27)) 16 (fun _ => 0) 27
  have l2 := K2.lt
  have l3 := K3.lt
  have k2 := K2.below hb2 l2
  have k3 := K3.below hb2 l3
  have hb : Hid (Below w.heap.size w w2) := ((((Below.refl w.heap.size w).alloc (Nat.le_refl _) (.cells (mk 16 f) 86)).alloc (by simp) (.cells (mk 16 fun _ => 0) 27)).alloc (by simp; omega) (.cells (mk 16 fun _ => 0) 27)).trans (hb2.mono (by simp; omega))
  simp only [World.size_alloc] at k2 k3
  clear K2 K3 hb2 l2 l3
  go_wp2_with (first | ((with_reducible show wpList _ _ _ (Oper.mk _ (Op.load 27 _) _ _ _ _ :: _) _ _); refine loadB (k3.row 16 _) rfl rfl rfl ?_) | ((with_reducible show wpList _ _ _ (Oper.mk _ (Op.store 25 _ _) _ _ _ _ :: _) _ _); refine storeG (k3) rfl rfl rfl rfl ?_) | ((with_reducible show wpList _ _ _ (Oper.mk _ (Op.store 27 _ _) _ _ _ _ :: _) _ _); refine storeB (k2.rowOther _ _ (by omega)) rfl rfl rfl rfl ?_))
  try simp only [Exit.inBlock, Exit.then]
  exact retcB ((k2.rowOther _ _ (by omega)).row 16 _) rfl rfl rfl ⟨rfl, below_setRow (below_setRow hb.out (by omega) _) (by omega) _⟩

set_option maxHeartbeats 400000 in
theorem eqIntA4_same (f : Nat → Int) (w : World) :
    Calls Try.prog 147 #[.agg (mk 4 f), .agg (mk 4 f)] w fun e w' => e = .returned (.bool true) ∧ Below w.heap.size w w' := by
  go_enter Try.func147, Try.ntmps147
  go_wp2_with fail
  have K1 := (Blk.new w 4 f 24).alloc (.cells (mk 4 f) 24)
  have K2 := Blk.new (w.alloc (.cells (mk 4 f) 24)) 4 f 24
  have HB := Lib.hid (((Below.refl w.heap.size w).alloc (Nat.le_refl _) (.cells (mk 4 f) 24)).alloc (by simp) (.cells (mk 4 f) 24))
  simp only [World.size_alloc] at K1 K2
  generalize (w.alloc (.cells (mk 4 f) 24)).alloc (.cells (mk 4 f) 24) = w1 at *
  go_loopg [5] 4 (fun g s5 wr => ∃ r : Nat, r + g = 4 ∧ s5 = .int .i64 r ∧ Blk wr w.heap.size 4 f 24 ∧ Blk wr (w.heap.size + 1) 4 f 24 ∧ Hid (Below w.heap.size w wr))
  case atStart => exact ⟨0, by omega, rfl, K1, K2, HB⟩
  case round =>
    obtain ⟨r, hrg, rfl, k1, k2, hb⟩ := hrel
    cases gk with
    | zero =>
      have hr : ¬ ((r : Int) < 4) := by omega
      clear hrg
      go_wp2_with fail
      go_ret
      exact ⟨rfl, hb.out⟩
    | succ g =>
      have hr0 : (0 : Int) ≤ (r : Int) := by omega
      have hr4 : (r : Int) < 4 := by omega
      have c1 := k1.cell (i := r) (by omega)
      have c2 := k2.cell (i := r) (by omega)
      generalize f r = x at c1 c2
      go_wp2_with fail
      go_quiet (fail)
      go_wp2_with fail
      go_roundg g
      case rel => exact ⟨r + 1, by omega, by go_num, k1.drewN _, k2.drewN _, below_drewN hb.out _⟩
      case measure => omega
set_option maxHeartbeats 400000 in
theorem eqIntA4A4_same (f : Nat → Int) (w : World) :
    Calls Try.prog 173 #[.agg (mk 16 f), .agg (mk 16 f)] w fun e w' => e = .returned (.bool true) ∧ Below w.heap.size w w' := by
  go_enter Try.func173, Try.ntmps173
  go_wp2_with fail
  have K1 := (Blk.new w 16 f 25).alloc (.cells (mk 16 f) 25)
  have K2 := Blk.new (w.alloc (.cells (mk 16 f) 25)) 16 f 25
  have HB := Lib.hid (((Below.refl w.heap.size w).alloc (Nat.le_refl _) (.cells (mk 16 f) 25)).alloc (by simp) (.cells (mk 16 f) 25))
  simp only [World.size_alloc] at K1 K2
  generalize (w.alloc (.cells (mk 16 f) 25)).alloc (.cells (mk 16 f) 25) = w1 at *
  go_loopg [5] 4 (fun g s5 wr => ∃ r : Nat, r + g = 4 ∧ s5 = .int .i64 r ∧ Blk wr w.heap.size 16 f 25 ∧ Blk wr (w.heap.size + 1) 16 f 25 ∧ Hid (Below w.heap.size w wr))
  case atStart => exact ⟨0, by omega, rfl, K1, K2, HB⟩
  case round =>
    obtain ⟨r, hrg, rfl, k1, k2, hb⟩ := hrel
    cases gk with
    | zero =>
      have hr : ¬ ((r : Int) < 4) := by omega
      clear hrg
      go_wp2_with fail
      go_ret
      exact ⟨rfl, hb.out⟩
    | succ g =>
      have hr0 : (0 : Int) ≤ (r : Int) := by omega
      have hr4 : (r : Int) < 4 := by omega
      have a0 := k1.cell (i := r * 4) (by omega)
      have a1 := k1.cell (i := r * 4 + 1) (by omega)
      have a2 := k1.cell (i := r * 4 + 2) (by omega)
      have a3 := k1.cell (i := r * 4 + 3) (by omega)
      have b0 := k2.cell (i := r * 4) (by omega)
      have b1 := k2.cell (i := r * 4 + 1) (by omega)
      have b2 := k2.cell (i := r * 4 + 2) (by omega)
      have b3 := k2.cell (i := r * 4 + 3) (by omega)
      have e4 : (#[.int .i64 (f (r * 4)), .int .i64 (f (r * 4 + 1)), .int .i64 (f (r * 4 + 2)), .int .i64 (f (r * 4 + 3))] : Array Value) = mk 4 (fun c => f (r * 4 + c)) := rfl
      go_wp2_with fail
      go_region_with ((go_at_call 147; refine (eqIntA4_same _ _).mono ?_; rintro e w2 ⟨rfl, hb2⟩))
      all_goals
        have l1 := k1.lt
        have l2 := k2.lt
        have k1 := k1.drew.below hb2 l1
        have k2 := k2.drew.below hb2 l2
        have hb3 : Hid (Below w.heap.size w w2) := hb.out.drew.trans (hb2.mono hb.out.size)
        clear hb2 a0 a1 a2 a3 b0 b1 b2 b3 e4
        go_wp2_with fail
        go_roundg g
        case rel => exact ⟨r + 1, by omega, by go_num, k1, k2, hb3⟩
        case measure => omega

theorem eqBoard_same (f : Nat → Int) (w : World) :
    Calls Try.prog 146 #[.agg (mk 16 f), .agg (mk 16 f)] w fun e w' => e = .returned (.bool true) ∧ Below w.heap.size w w' := by
  have K1 := (Blk.new w 16 f 27).alloc (.cells (mk 16 f) 27)
  have K2 := Blk.new (w.alloc (.cells (mk 16 f) 27)) 16 f 27
  simp only [World.size_alloc] at K2
  go_enter Try.func146, Try.ntmps146
  go_wp2_with (first | ((with_reducible show wpList _ _ _ (Oper.mk _ (Op.load 25 _) _ _ _ _ :: _) _ _); refine loadG (K1) rfl rfl rfl ?_) | ((with_reducible show wpList _ _ _ (Oper.mk _ (Op.load 25 _) _ _ _ _ :: _) _ _); refine loadG (K2) rfl rfl rfl ?_))
  refine (eqIntA4A4_same _ _).mono ?_
  rintro e w2 ⟨rfl, hb2⟩
  have hb : Hid (Below w.heap.size w w2) := (((Below.refl w.heap.size w).alloc (Nat.le_refl _) (.cells (mk 16 f) 27)).alloc (by simp) (.cells (mk 16 f) 27)).trans (hb2.mono (by simp; omega))
  clear hb2
  go_wp2_with fail
  go_ret
  exact ⟨rfl, hb.out⟩
end Go.Proofs.Ytpiegllffkjneaa
