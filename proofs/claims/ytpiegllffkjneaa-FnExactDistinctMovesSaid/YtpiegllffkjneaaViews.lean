/-
  The contracts of the program's views of a board (as it is, transposed, mirrored, turned, turned back). No condition.
-/
import Derived.Test.YtpiegllffkjneaaTypes
namespace Go.Proofs.Ytpiegllffkjneaa
open Go.RowKit Plain
attribute [local go_sem] store_new

theorem unturned_any (f : Nat → Int) (w : World) :
    Calls Try.prog 154 #[.agg (mk 16 f)] w fun e w' => e = .returned (.agg (mk 16 f)) ∧ Below w.heap.size w w' := by
  have z16 := zero16
  have K1 := (Blk.new w 16 f 27).alloc (.cells (mk 16 fun _ => 0) 27)
  have K2 := Blk.new (w.alloc (.cells (mk 16 f) 27)) 16 (fun _ => 0) 27
  have HB := Lib.hid (((Below.refl w.heap.size w).alloc (Nat.le_refl _) (.cells (mk 16 f) 27)).alloc (by simp) (.cells (mk 16 fun _ => 0) 27))
  simp only [World.size_alloc] at K2
  go_enter Try.func154, Try.ntmps154
  go_wp2_with (first | ((with_reducible show wpList _ _ _ (Oper.mk _ (Op.load 27 _) _ _ _ _ :: _) _ _); refine loadB (K1) rfl rfl rfl ?_) | ((with_reducible show wpList _ _ _ (Oper.mk _ (Op.store 27 _ _) _ _ _ _ :: _) _ _); refine storeB (K2) rfl rfl rfl rfl ?_))
  try simp only [Exit.inBlock, Exit.then]
  first
    | exact retcB (K2.row 16 _) rfl rfl rfl ⟨rfl, below_setRow HB.out (by omega) _⟩
    | exact retcB (Blk.new _ _ _ _) rfl rfl rfl ⟨rfl, ((Below.refl w.heap.size w).alloc (Nat.le_refl _) _).alloc (by simp) _⟩

set_option maxHeartbeats 400000 in
theorem transposed_any (f : Nat → Int) (w : World) :
    Calls Try.prog 159 #[.agg (mk 16 f)] w fun e w' => e = .returned (.agg (mk 16 (fun j => f (j % 4 * 4 + j / 4)))) ∧ Below w.heap.size w w' := by
  have z16 := zero16
  have z4 := zero4
  have iG := idxG
  have iR := idxR
  go_enter Try.func159, Try.ntmps159
  go_wp2_with ((with_reducible show wpList _ _ _ (Oper.mk _ (Op.load 25 _) _ _ _ _ :: _) _ _); refine loadG (((Blk.new _ _ _ _).alloc _).alloc _) rfl rfl rfl ?_)
  have K2 := (Blk.new (w.alloc (.cells (mk 16 f) 27)) 16 (fun _ => 0) 27).alloc (.cells (mk 16 fun _ => 0) 27)
  have K3 := Blk.new ((w.alloc (.cells (mk 16 f) 27)).alloc (.cells (mk 16 fun _ => 0) 27)) 16 (fun _ => 0) 27
  have HB := Lib.hid ((((Below.refl w.heap.size w).alloc (Nat.le_refl _) (.cells (mk 16 f) 27)).alloc (by simp) (.cells (mk 16 fun _ => 0) 27)).alloc (by simp; omega) (.cells (mk 16 fun _ => 0) 27))
  simp only [World.size_alloc] at K2 K3
  generalize ((w.alloc (.cells (mk 16 f) 27)).alloc (.cells (mk 16 fun _ => 0) 27)).alloc (.cells (mk 16 fun _ => 0) 27) = w1 at *
  go_loopg [11] 4 (fun g s11 wr => ∃ r : Nat, r + g = 4 ∧ s11 = .int .i64 r ∧ Blk wr (w.heap.size + 1) 16 (fun _ => 0) 27 ∧ Blk wr (w.heap.size + 1 + 1) 16 (trF f r 0) 27 ∧ Hid (Below w.heap.size w wr))
  case atStart => exact ⟨0, by omega, rfl, K2, K3.congr fun j _ => (trF_zero f j).symm, HB⟩
  case round =>
    obtain ⟨r, hrg, rfl, k2, k3, hb⟩ := hrel
    cases gk with
    | zero =>
      have hr : ¬ ((r : Int) < 4) := by omega
      have HR : Hid (r = 4) := by show r = 4; omega
      clear hrg
      go_wp2_with (first | ((with_reducible show wpList _ _ _ (Oper.mk _ (Op.load 27 _) _ _ _ _ :: _) _ _); refine loadB (k3) rfl rfl rfl ?_) | ((with_reducible show wpList _ _ _ (Oper.mk _ (Op.store 27 _ _) _ _ _ _ :: _) _ _); refine storeB (k2) rfl rfl rfl rfl ?_))
      try simp only [Exit.inBlock, Exit.then]
      refine retcB (k2.row 16 _) rfl rfl rfl ⟨?_, below_setRow hb.out (by omega) _⟩
      rw [HR.out, mk_congr (trF_all f)]
    | succ g =>
      have hr4 : (r : Int) < 4 := by omega
      have hr5 : r < 4 := by omega
      have hlt := k3.lt
      go_wp2_with ((with_reducible show wpList _ _ _ (Oper.mk _ (Op.load 24 _) _ _ _ _ :: _) _ _); refine loadR (Blk.new _ _ _ _) rfl rfl rfl ?_)
      go_loopg [16] 4 (fun h s16 wx => ∃ c : Nat, c + h = 4 ∧ s16 = .int .i64 c ∧ Blk wx (w.heap.size + 1) 16 (fun _ => 0) 27 ∧ Blk wx (w.heap.size + 1 + 1) 16 (trF f r c) 27 ∧ Hid (Below w.heap.size w wx))
      case atStart => exact ⟨0, by omega, rfl, k2.alloc _, k3.alloc _, hb.out.alloc (by omega) _⟩
      case round =>
        obtain ⟨c, hch, rfl, k2, k3, hb⟩ := hrel
        cases gk with
        | zero =>
          have hc : ¬ ((c : Int) < 4) := by omega
          have HC : Hid (c = 4) := by show c = 4; omega
          clear hch
          go_wp2_with fail
          go_roundg g
          case rel => exact ⟨r + 1, by omega, by go_num, k2, by rw [HC.out] at k3; exact k3.congr (trF_row f r), hb⟩
          case measure => omega
        | succ h =>
          have hc : (c : Int) < 4 := by omega
          have hc5 : c < 4 := by omega
          skip
          have c3 := k3.cell (i := c * 4 + r) (by omega)
          have f3 := k3.free (c * 4 + r)
          go_wp2_with fail
          go_roundg h
          case rel => exact ⟨c + 1, by omega, by go_num, k2.setOther _ _ (by dsimp only; omega), (k3.set (by omega) _).congr (trF_step f hr5), hb.out.setCell (by dsimp only; omega) _⟩
          case measure => omega
set_option maxHeartbeats 400000 in
theorem mirrored_any (f : Nat → Int) (w : World) :
    Calls Try.prog 158 #[.agg (mk 16 f)] w fun e w' => e = .returned (.agg (mk 16 (fun j => f (j / 4 * 4 + (3 - j % 4))))) ∧ Below w.heap.size w w' := by
  have z16 := zero16
  have z4 := zero4
  have iG := idxG
  have iR := idxR
  go_enter Try.func158, Try.ntmps158
  go_wp2_with ((with_reducible show wpList _ _ _ (Oper.mk _ (Op.load 25 _) _ _ _ _ :: _) _ _); refine loadG (((Blk.new _ _ _ _).alloc _).alloc _) rfl rfl rfl ?_)
  have K2 := (Blk.new (w.alloc (.cells (mk 16 f) 27)) 16 (fun _ => 0) 27).alloc (.cells (mk 16 fun _ => 0) 27)
  have K3 := Blk.new ((w.alloc (.cells (mk 16 f) 27)).alloc (.cells (mk 16 fun _ => 0) 27)) 16 (fun _ => 0) 27
  have HB := Lib.hid ((((Below.refl w.heap.size w).alloc (Nat.le_refl _) (.cells (mk 16 f) 27)).alloc (by simp) (.cells (mk 16 fun _ => 0) 27)).alloc (by simp; omega) (.cells (mk 16 fun _ => 0) 27))
  simp only [World.size_alloc] at K2 K3
  generalize ((w.alloc (.cells (mk 16 f) 27)).alloc (.cells (mk 16 fun _ => 0) 27)).alloc (.cells (mk 16 fun _ => 0) 27) = w1 at *
  go_loopg [11] 4 (fun g s11 wr => ∃ r : Nat, r + g = 4 ∧ s11 = .int .i64 r ∧ Blk wr (w.heap.size + 1) 16 (fun _ => 0) 27 ∧ Blk wr (w.heap.size + 1 + 1) 16 (miF f r 0) 27 ∧ Hid (Below w.heap.size w wr))
  case atStart => exact ⟨0, by omega, rfl, K2, K3.congr fun j _ => (miF_zero f j).symm, HB⟩
  case round =>
    obtain ⟨r, hrg, rfl, k2, k3, hb⟩ := hrel
    cases gk with
    | zero =>
      have hr : ¬ ((r : Int) < 4) := by omega
      have HR : Hid (r = 4) := by show r = 4; omega
      clear hrg
      go_wp2_with (first | ((with_reducible show wpList _ _ _ (Oper.mk _ (Op.load 27 _) _ _ _ _ :: _) _ _); refine loadB (k3) rfl rfl rfl ?_) | ((with_reducible show wpList _ _ _ (Oper.mk _ (Op.store 27 _ _) _ _ _ _ :: _) _ _); refine storeB (k2) rfl rfl rfl rfl ?_))
      try simp only [Exit.inBlock, Exit.then]
      refine retcB (k2.row 16 _) rfl rfl rfl ⟨?_, below_setRow hb.out (by omega) _⟩
      rw [HR.out, mk_congr (miF_all f)]
    | succ g =>
      have hr4 : (r : Int) < 4 := by omega
      have hr5 : r < 4 := by omega
      have hlt := k3.lt
      go_wp2_with ((with_reducible show wpList _ _ _ (Oper.mk _ (Op.load 24 _) _ _ _ _ :: _) _ _); refine loadR (Blk.new _ _ _ _) rfl rfl rfl ?_)
      go_loopg [16] 4 (fun h s16 wx => ∃ c : Nat, c + h = 4 ∧ s16 = .int .i64 c ∧ Blk wx (w.heap.size + 1) 16 (fun _ => 0) 27 ∧ Blk wx (w.heap.size + 1 + 1) 16 (miF f r c) 27 ∧ Hid (Below w.heap.size w wx))
      case atStart => exact ⟨0, by omega, rfl, k2.alloc _, k3.alloc _, hb.out.alloc (by omega) _⟩
      case round =>
        obtain ⟨c, hch, rfl, k2, k3, hb⟩ := hrel
        cases gk with
        | zero =>
          have hc : ¬ ((c : Int) < 4) := by omega
          have HC : Hid (c = 4) := by show c = 4; omega
          clear hch
          go_wp2_with fail
          go_roundg g
          case rel => exact ⟨r + 1, by omega, by go_num, k2, by rw [HC.out] at k3; exact k3.congr (miF_row f r), hb⟩
          case measure => omega
        | succ h =>
          have hc : (c : Int) < 4 := by omega
          have hc5 : c < 4 := by omega
          skip
          have c3 := k3.cell (i := r * 4 + (3 - c)) (by omega)
          have f3 := k3.free (r * 4 + (3 - c))
          go_wp2_with fail
          go_roundg h
          case rel => exact ⟨c + 1, by omega, by go_num, k2.setOther _ _ (by dsimp only; omega), (k3.set (by omega) _).congr (miF_step f (show c + (3 - c) = 3 by omega)), hb.out.setCell (by dsimp only; omega) _⟩
          case measure => omega

theorem turned_any (f : Nat → Int) (w : World) :
    Calls Try.prog 155 #[.agg (mk 16 f)] w fun e w' => e = .returned (.agg (mk 16 (fun j => f ((3 - j % 4) * 4 + j / 4)))) ∧ Below w.heap.size w w' := by
  have z16 := zero16
  have K1 := (Blk.new w 16 f 27).alloc (.cells (mk 16 fun _ => 0) 27)
  have K2 := Blk.new (w.alloc (.cells (mk 16 f) 27)) 16 (fun _ => 0) 27
  have HB := Lib.hid (((Below.refl w.heap.size w).alloc (Nat.le_refl _) (.cells (mk 16 f) 27)).alloc (by simp) (.cells (mk 16 fun _ => 0) 27))
  simp only [World.size_alloc] at K2
  go_enter Try.func155, Try.ntmps155
  go_wp2_with ((with_reducible show wpList _ _ _ (Oper.mk _ (Op.load 27 _) _ _ _ _ :: _) _ _); refine loadB (K1) rfl rfl rfl ?_)
  refine (transposed_any _ _).mono ?_
  rintro e w2 ⟨rfl, hb2⟩
  have k2 := K2.below hb2 (by simp)
  have HB2 : Hid (Below w.heap.size w w2) := HB.out.trans (hb2.mono HB.out.size)
  clear hb2 HB K1 K2
  go_wp2_with fail
  refine (mirrored_any _ _).mono ?_
  rintro e w3 ⟨rfl, hb3⟩
  have k3 := k2.below hb3 k2.lt
  have HB3 : Hid (Below w.heap.size w w3) := HB2.out.trans (hb3.mono HB2.out.size)
  clear hb3 HB2 k2
  go_wp2_with ((with_reducible show wpList _ _ _ (Oper.mk _ (Op.store 27 _ _) _ _ _ _ :: _) _ _); refine storeB (k3) rfl rfl rfl rfl ?_)
  try simp only [Exit.inBlock, Exit.then]
  refine retcB (k3.row 16 _) rfl rfl rfl ⟨?_, below_setRow HB3.out (by omega) _⟩
  rw [mk_congr]
  intro j hj
  show f _ = f _
  have e1 : (j % 4 * 4 + j / 4) / 4 = j % 4 := by omega
  have e2 : (j % 4 * 4 + j / 4) % 4 = j / 4 := by omega
  congr 1
  first | omega | rw [e1, e2]
theorem turnedBack_any (f : Nat → Int) (w : World) :
    Calls Try.prog 157 #[.agg (mk 16 f)] w fun e w' => e = .returned (.agg (mk 16 (fun j => f (j % 4 * 4 + (3 - j / 4))))) ∧ Below w.heap.size w w' := by
  have z16 := zero16
  have K1 := (Blk.new w 16 f 27).alloc (.cells (mk 16 fun _ => 0) 27)
  have K2 := Blk.new (w.alloc (.cells (mk 16 f) 27)) 16 (fun _ => 0) 27
  have HB := Lib.hid (((Below.refl w.heap.size w).alloc (Nat.le_refl _) (.cells (mk 16 f) 27)).alloc (by simp) (.cells (mk 16 fun _ => 0) 27))
  simp only [World.size_alloc] at K2
  go_enter Try.func157, Try.ntmps157
  go_wp2_with ((with_reducible show wpList _ _ _ (Oper.mk _ (Op.load 27 _) _ _ _ _ :: _) _ _); refine loadB (K1) rfl rfl rfl ?_)
  refine (mirrored_any _ _).mono ?_
  rintro e w2 ⟨rfl, hb2⟩
  have k2 := K2.below hb2 (by simp)
  have HB2 : Hid (Below w.heap.size w w2) := HB.out.trans (hb2.mono HB.out.size)
  clear hb2 HB K1 K2
  go_wp2_with fail
  refine (transposed_any _ _).mono ?_
  rintro e w3 ⟨rfl, hb3⟩
  have k3 := k2.below hb3 k2.lt
  have HB3 : Hid (Below w.heap.size w w3) := HB2.out.trans (hb3.mono HB2.out.size)
  clear hb3 HB2 k2
  go_wp2_with ((with_reducible show wpList _ _ _ (Oper.mk _ (Op.store 27 _ _) _ _ _ _ :: _) _ _); refine storeB (k3) rfl rfl rfl rfl ?_)
  try simp only [Exit.inBlock, Exit.then]
  refine retcB (k3.row 16 _) rfl rfl rfl ⟨?_, below_setRow HB3.out (by omega) _⟩
  rw [mk_congr]
  intro j hj
  show f _ = f _
  have e1 : (j % 4 * 4 + j / 4) / 4 = j % 4 := by omega
  have e2 : (j % 4 * 4 + j / 4) % 4 = j / 4 := by omega
  congr 1
  first | omega | rw [e1, e2]
end Go.Proofs.Ytpiegllffkjneaa
