/-
  The contracts of RowPairs and IsFlush, in the reference and in the program, for every row.
-/
import Derived.Test.YtphkidkkcknnmaaRowsA
import Derived.Test.YtphkidkkcknnmaaBaseA
import Derived.Deep.RegionHeld3
namespace Go.Proofs.Ytphkidkkcknnmaa
open Go.RowKit Plain
attribute [local go_sem] store_new

theorem held4_step {w W w6 : World} {b n : Nat} {f : Nat → Int} {t : TypeId} (h : Blk W b n f t ∧ Below w.heap.size w W) (hb : Below W.heap.size W w6) : Blk w6 b n f t ∧ Below w.heap.size w w6 :=
  ⟨h.1.below hb h.1.lt, h.2.trans (hb.mono h.2.size)⟩
theorem held44_step {w W w6 : World} {b n c m : Nat} {f g : Nat → Int} {t u : TypeId} (h : Blk W b n f t ∧ Blk W c m g u ∧ Below w.heap.size w W) (hb : Below W.heap.size W w6) : Blk w6 b n f t ∧ Blk w6 c m g u ∧ Below w.heap.size w w6 :=
  ⟨h.1.below hb h.1.lt, h.2.1.below hb h.2.1.lt, h.2.2.trans (hb.mono h.2.2.size)⟩
theorem held44_below {w W : World} {b n c m B : Nat} {f g : Nat → Int} {t u : TypeId} (h : Blk W b n f t ∧ Blk W c m g u ∧ Below B w W) : Below B w W := h.2.2
theorem held4_below {w W : World} {b n B : Nat} {f : Nat → Int} {t : TypeId} (h : Blk W b n f t ∧ Below B w W) : Below B w W := h.2

set_option maxHeartbeats 400000 in
theorem l4Many_any (f : Nat → Int) (w : World) :
    Calls Try.prog 69 #[.agg (mk 4 f)] w fun e w' => e = .returned (.int .i64 (many f 4)) ∧ Below w.heap.size w w' := by
  have K1 := Blk.new w 4 f 22
  have HB := Lib.hid ((Below.refl w.heap.size w).alloc (Nat.le_refl _) (.cells (mk 4 f) 22))
  go_enter Try.func69, Try.ntmps69
  go_wp2_with fail
  generalize w.alloc (.cells (mk 4 f) 22) = w1 at *
  go_loopg [3, 4] 4 (fun g s3 s4 wx => ∃ c : Nat, c + g = 4 ∧ s3 = .int .i64 (many f c) ∧ s4 = .int .i64 c ∧ w1 = wx)
  case atStart => exact ⟨0, by omega, rfl, rfl, rfl⟩
  case round =>
    obtain ⟨c, hch, rfl, rfl, rfl⟩ := hrel
    cases gk with
    | zero =>
      have hc : ¬ ((c : Int) < 4) := by omega
      have HC : Hid (c = 4) := by show c = 4; omega
      clear hch
      go_wp2_with fail
      go_ret
      exact ⟨by rw [HC.out]; rfl, HB.out⟩
    | succ h =>
      have hc : (c : Int) < 4 := by omega
      have k1 := K1.cell (i := c) (by omega)
      have hm := many_bd f c
      obtain ⟨m0, m1⟩ := hm
      by_cases hx : 0 < f c
      · have HS : Hid (many f (c + 1) = many f c + 1) := by show _ = _; rw [many, if_pos hx]
        generalize f c = x at k1 hx
        generalize many f c = m at *
        go_wp2_with fail
        go_roundg h
        case rel => exact ⟨c + 1, by omega, by rw [HS.out], by go_num, rfl⟩
        case measure => omega
      · have HS : Hid (many f (c + 1) = many f c) := by show _ = _; rw [many, if_neg hx]
        have d0 : decide (0 < f c) = false := by simpa using hx
        generalize f c = x at k1 hx d0
        generalize many f c = m at *
        clear hx
        go_wp2_with fail
        go_roundg h
        case rel => exact ⟨c + 1, by omega, by rw [HS.out], by go_num, rfl⟩
        case measure => omega

/-- As far as the first k numbers tell, no 0 comes before another number. -/
def FlTo (f : Nat → Int) (c : Nat) : Prop := ∀ k, 1 ≤ k → k < c → f k ≠ 0 → f (k - 1) ≠ 0
set_option maxHeartbeats 400000 in
theorem flushed_any (f : Nat → Int) (w : World) :
    Calls Try.prog 123 #[.agg (mk 4 f)] w fun e w' => e = .returned (.agg (mk 4 (fl f 4).1)) ∧ Below w.heap.size w w' := by
  have z4 := zero4
  have iR := idxR
  have K1 := ((Blk.new w 4 f 22).alloc (.cells (mk 4 fun _ => 0) 22)).alloc (.cells (mk 4 fun _ => 0) 22)
  have K2 := (Blk.new (w.alloc (.cells (mk 4 f) 22)) 4 (fun _ => 0) 22).alloc (.cells (mk 4 fun _ => 0) 22)
  have K3 := Blk.new ((w.alloc (.cells (mk 4 f) 22)).alloc (.cells (mk 4 fun _ => 0) 22)) 4 (fun _ => 0) 22
  have HB := Lib.hid ((((Below.refl w.heap.size w).alloc (Nat.le_refl _) (.cells (mk 4 f) 22)).alloc (by simp) (.cells (mk 4 fun _ => 0) 22)).alloc (by simp; omega) (.cells (mk 4 fun _ => 0) 22))
  simp only [World.size_alloc] at K2 K3
  go_enter Try.func123, Try.ntmps123
  go_wp2_with ((with_reducible show wpList _ _ _ (Oper.mk _ (Op.load 22 _) _ _ _ _ :: _) _ _); refine loadR (K1) rfl rfl rfl ?_)
  generalize ((w.alloc (.cells (mk 4 f) 22)).alloc (.cells (mk 4 fun _ => 0) 22)).alloc (.cells (mk 4 fun _ => 0) 22) = w1 at *
  clear K1
  go_loopg [9, 4] 4 (fun g s9 s4 wr => ∃ k : Nat, k + g = 4 ∧ s9 = .int .i64 k ∧ s4 = .int .i64 (fl f k).2 ∧
    Blk wr (w.heap.size + 1) 4 (fun _ => 0) 22 ∧ Blk wr (w.heap.size + 1 + 1) 4 (fl f k).1 22 ∧ Hid (Below w.heap.size w wr))
  case atStart => exact ⟨0, by omega, rfl, rfl, K2, K3, HB⟩
  case round =>
    obtain ⟨k, hkg, rfl, rfl, k2, k3, hb⟩ := hrel
    cases gk with
    | zero =>
      have hk : ¬ ((k : Int) < 4) := by omega
      have HK : Hid (k = 4) := by show k = 4; omega
      clear hkg
      go_wp2_with (first | ((with_reducible show wpList _ _ _ (Oper.mk _ (Op.load 22 _) _ _ _ _ :: _) _ _); refine loadR (k3) rfl rfl rfl ?_) | ((with_reducible show wpList _ _ _ (Oper.mk _ (Op.store 22 _ _) _ _ _ _ :: _) _ _); refine storeR (k2) rfl rfl rfl rfl ?_))
      try simp only [Exit.inBlock, Exit.then]
      exact retcR (k2.row 4 _) rfl rfl rfl ⟨by rw [HK.out], below_setRow hb.out (by omega) _⟩
    | succ g =>
      have hk : (k : Int) < 4 := by omega
      have hk4 : k < 4 := by omega
      have hn := fl_le f k
      by_cases h0 : f k = 0
      · have d0 : (f k != 0) = false := by simpa using h0
        have HS : Hid (fl f (k + 1) = fl f k) := fl_zero h0
        clear h0
        generalize fl f k = s at *
        obtain ⟨r, n⟩ := s
        simp only [] at k3 hn
        go_wp2_with fail
        go_roundg g
        case rel => exact ⟨k + 1, by omega, by go_num, by rw [HS.out], k2, by rw [HS.out]; exact k3, hb⟩
        case measure => omega
      · have d0 : (f k != 0) = true := by simpa using h0
        have HS : Hid (fl f (k + 1) = (upd (fl f k).1 (fl f k).2 (f k), (fl f k).2 + 1)) := fl_tile h0
        clear h0
        generalize fl f k = s at *
        obtain ⟨r, n⟩ := s
        simp only [] at k3 hn
        have hn4 : n < 4 := by omega
        have c3 := k3.cell (i := n) (by omega)
        have f3 := k3.free n
        go_wp2_with fail
        go_roundg g
        case rel => exact ⟨k + 1, by omega, by go_num, by rw [HS.out]; go_num, k2.setOther _ _ (by dsimp only; omega), by rw [HS.out]; exact k3.set (by omega) _, hb.out.setCell (by dsimp only; omega) _⟩
        case measure => omega
end Go.Proofs.Ytphkidkkcknnmaa
