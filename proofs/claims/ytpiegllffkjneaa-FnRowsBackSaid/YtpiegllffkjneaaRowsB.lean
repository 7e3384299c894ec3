/-
  The contracts of RowPairs and IsFlush, in the reference and in the program, for every row.
-/
import Derived.Test.YtpiegllffkjneaaRowsA
import Derived.Test.YtpiegllffkjneaaBaseA
import Derived.Deep.RegionHeld3
namespace Go.Proofs.Ytpiegllffkjneaa
open Go.RowKit Plain
attribute [local go_sem] store_new

theorem held4_step {w W w6 : World} {b n : Nat} {f : Nat → Int} {t : TypeId} (h : Blk W b n f t ∧ Below w.heap.size w W) (hb : Below W.heap.size W w6) : Blk w6 b n f t ∧ Below w.heap.size w w6 :=
  ⟨h.1.below hb h.1.lt, h.2.trans (hb.mono h.2.size)⟩
theorem held44_step {w W w6 : World} {b n c m : Nat} {f g : Nat → Int} {t u : TypeId} (h : Blk W b n f t ∧ Blk W c m g u ∧ Below w.heap.size w W) (hb : Below W.heap.size W w6) : Blk w6 b n f t ∧ Blk w6 c m g u ∧ Below w.heap.size w w6 :=
  ⟨h.1.below hb h.1.lt, h.2.1.below hb h.2.1.lt, h.2.2.trans (hb.mono h.2.2.size)⟩
theorem held44_below {w W : World} {b n c m B : Nat} {f g : Nat → Int} {t u : TypeId} (h : Blk W b n f t ∧ Blk W c m g u ∧ Below B w W) : Below B w W := h.2.2
theorem held4_below {w W : World} {b n B : Nat} {f : Nat → Int} {t : TypeId} (h : Blk W b n f t ∧ Below B w W) : Below B w W := h.2

/-- As far as the first k numbers tell, no 0 comes before another number. -/
def FlTo (f : Nat → Int) (c : Nat) : Prop := ∀ k, 1 ≤ k → k < c → f k ≠ 0 → f (k - 1) ≠ 0
set_option maxHeartbeats 400000 in
theorem l4Flush_any (f : Nat → Int) (w : World) (hV : VdRow f) :
    Calls Try.prog 140 #[.agg (mk 4 f)] w fun e w' => e = .returned (.bool (decide (FlP f))) ∧ Below w.heap.size w w' := by
  have K1 := Blk.new w 4 f 24
  have HB := Lib.hid ((Below.refl w.heap.size w).alloc (Nat.le_refl _) (.cells (mk 4 f) 24))
  have HV := Lib.hid hV
  clear hV
  go_enter Try.func140, Try.ntmps140
  go_wp2_with fail
  generalize w.alloc (.cells (mk 4 f) 24) = w1 at *
  go_loopg [3] 3 (fun g s3 wx => ∃ c : Nat, c + g = 4 ∧ 1 ≤ c ∧ s3 = .int .i64 c ∧ Hid (FlTo f c) ∧ w1 = wx)
  case atStart => exact ⟨1, by omega, by omega, rfl, (fun k h1 h2 => by omega : FlTo f 1), rfl⟩
  case round =>
    obtain ⟨c, hch, hc1, rfl, HF, rfl⟩ := hrel
    cases gk with
    | zero =>
      have hc : ¬ ((c : Int) < 4) := by omega
      have HP : Hid (decide (FlP f) = true) := by
        show _ = _
        refine decide_eq_true ?_
        have e : c = 4 := by omega
        have h := HF.out
        rw [e] at h
        exact h
      clear hch
      go_wp2_with fail
      go_ret
      exact ⟨by rw [HP.out]; rfl, HB.out⟩
    | succ h =>
      have hc : (c : Int) < 4 := by omega
      have hcm : (0 : Int) ≤ (c : Int) - 1 := by omega
      have hcm2 : (c : Int) - 1 < 4 := by omega
      have k1 := K1.cell (i := c) (by omega)
      have k2 := K1.cell (i := c - 1) (by omega)
      obtain ⟨x0, x1⟩ := HV.out c (by omega)
      by_cases hx : 0 < f c
      · by_cases hy : f (c - 1) = 0
        · have HN : Hid (decide (FlP f) = false) := by
            show _ = _
            exact decide_eq_false fun h => h c hc1 (by omega) (by omega) hy
          rw [hy] at k2
          generalize f c = x at k1 hx x0 x1
          clear hy
          go_wp2_with fail
          try rw [Exit.noGoto_ret]
          go_ret
          exact ⟨by rw [HN.out]; rfl, HB.out⟩
        · have HF2 : Hid (FlTo f (c + 1)) := by
            intro k h1 h2 h3
            by_cases e : k = c
            · rw [e]; exact hy
            · exact HF.out k h1 (by omega) h3
          have d0 : (f (c - 1) == 0) = false := by simpa using hy
          generalize f c = x at k1 hx x0 x1
          generalize f (c - 1) = y at k2 d0
          clear hy
          go_wp2_with fail
          go_roundg h
          case rel => exact ⟨c + 1, by omega, by omega, by go_num, HF2, rfl⟩
          case measure => omega
      · have d0 : decide (0 < f c) = false := by simpa using hx
        have HF2 : Hid (FlTo f (c + 1)) := by
          intro k h1 h2 h3
          by_cases e : k = c
          · rw [e] at h3; exact absurd (by omega : f c = 0) h3
          · exact HF.out k h1 (by omega) h3
        generalize f c = x at k1 hx d0 x0 x1
        clear hx
        go_wp2_with fail
        go_roundg h
        case rel => exact ⟨c + 1, by omega, by omega, by go_num, HF2, rfl⟩
        case measure => omega
theorem specFlush_any (f : Nat → Int) (w : World) :
    Calls Try.prog 65 #[.agg (mk 4 f)] w fun e w' => e = .returned (.tuple #[.bool (flR f), .bool (rwO f)]) ∧ Below w.heap.size w w' := by
  have K1 := Blk.new w 4 f 24
  have HB := Lib.hid ((Below.refl w.heap.size w).alloc (Nat.le_refl _) (.cells (mk 4 f) 24))
  by_cases hV : VdRow f
  · rw [flR_yes hV, rwO_yes hV]
    have HV := Lib.hid hV
    have HO := Lib.hid (rwO_yes hV)
    clear hV
    go_enter Try.func65, Try.ntmps65
    go_wp2_with ((with_reducible show wpList _ _ _ (Oper.mk _ (Op.load 24 _) _ _ _ _ :: _) _ _); refine loadR (K1) rfl rfl rfl ?_)
    refine (l4Row_any _ _).mono ?_
    rw [HO.out]
    rintro e w1 ⟨rfl, hb⟩
    have K1 := K1.below hb K1.lt
    have HB : Hid (Below w.heap.size w w1) := HB.out.trans (hb.mono HB.out.size)
    clear hb
    go_wp2_with ((with_reducible show wpList _ _ _ (Oper.mk _ (Op.load 24 _) _ _ _ _ :: _) _ _); refine loadR (K1) rfl rfl rfl ?_)
    refine (l4Flush_any f _ HV.out).mono ?_
    rintro e w2 ⟨rfl, hb⟩
    have K1 := K1.below hb K1.lt
    have HB : Hid (Below w.heap.size w w2) := HB.out.trans (hb.mono HB.out.size)
    clear hb
    go_wp2_with fail
    go_ret2
    exact ⟨rfl, HB.out⟩
  · rw [flR_no hV, rwO_no hV]
    have HO := Lib.hid (rwO_no hV)
    clear hV
    go_enter Try.func65, Try.ntmps65
    go_wp2_with ((with_reducible show wpList _ _ _ (Oper.mk _ (Op.load 24 _) _ _ _ _ :: _) _ _); refine loadR (K1) rfl rfl rfl ?_)
    refine (l4Row_any _ _).mono ?_
    rw [HO.out]
    rintro e w1 ⟨rfl, hb⟩
    have K1 := K1.below hb K1.lt
    have HB : Hid (Below w.heap.size w w1) := HB.out.trans (hb.mono HB.out.size)
    clear hb
    go_wp2_with fail
    go_ret2
    exact ⟨rfl, HB.out⟩

set_option maxHeartbeats 400000 in
theorem flushed_any (f : Nat → Int) (w : World) :
    Calls Try.prog 139 #[.agg (mk 4 f)] w fun e w' => e = .returned (.agg (mk 4 (fl f 4).1)) ∧ Below w.heap.size w w' := by
  have z4 := zero4
  have iR := idxR
  have K1 := ((Blk.new w 4 f 24).alloc (.cells (mk 4 fun _ => 0) 24)).alloc (.cells (mk 4 fun _ => 0) 24)
  have K2 := (Blk.new (w.alloc (.cells (mk 4 f) 24)) 4 (fun _ => 0) 24).alloc (.cells (mk 4 fun _ => 0) 24)
  have K3 := Blk.new ((w.alloc (.cells (mk 4 f) 24)).alloc (.cells (mk 4 fun _ => 0) 24)) 4 (fun _ => 0) 24
  have HB := Lib.hid ((((Below.refl w.heap.size w).alloc (Nat.le_refl _) (.cells (mk 4 f) 24)).alloc (by simp) (.cells (mk 4 fun _ => 0) 24)).alloc (by simp; omega) (.cells (mk 4 fun _ => 0) 24))
  simp only [World.size_alloc] at K2 K3
  go_enter Try.func139, Try.ntmps139
  go_wp2_with ((with_reducible show wpList _ _ _ (Oper.mk _ (Op.load 24 _) _ _ _ _ :: _) _ _); refine loadR (K1) rfl rfl rfl ?_)
  generalize ((w.alloc (.cells (mk 4 f) 24)).alloc (.cells (mk 4 fun _ => 0) 24)).alloc (.cells (mk 4 fun _ => 0) 24) = w1 at *
  clear K1
  go_loopg [9, 4] 4 (fun g s9 s4 wr => ∃ k : Nat, k + g = 4 ∧ s9 = .int .i64 k ∧ s4 = .int .i64 (fl f k).2 ∧
    Blk wr (w.heap.size + 1) 4 (fun _ => 0) 24 ∧ Blk wr (w.heap.size + 1 + 1) 4 (fl f k).1 24 ∧ Hid (Below w.heap.size w wr))
  case atStart => exact ⟨0, by omega, rfl, rfl, K2, K3, HB⟩
  case round =>
    obtain ⟨k, hkg, rfl, rfl, k2, k3, hb⟩ := hrel
    cases gk with
    | zero =>
      have hk : ¬ ((k : Int) < 4) := by omega
      have HK : Hid (k = 4) := by show k = 4; omega
      clear hkg
      go_wp2_with (first | ((with_reducible show wpList _ _ _ (Oper.mk _ (Op.load 24 _) _ _ _ _ :: _) _ _); refine loadR (k3) rfl rfl rfl ?_) | ((with_reducible show wpList _ _ _ (Oper.mk _ (Op.store 24 _ _) _ _ _ _ :: _) _ _); refine storeR (k2) rfl rfl rfl rfl ?_))
      try simp only [Exit.inBlock, Exit.then]
      exact retcR (k2.row 4 _) rfl rfl rfl ⟨by rw [HK.out], below_setRow hb.out (by omega) _⟩
    | succ g =>
      have hk : (k : Int) < 4 := by omega
      have hk4 : k < 4 := by omega
      have hn := fl_le f k
      by_cases h0 : f k = 0
      · have d0 : (f k != 0) = false := by simpa using h0
        have HS : Hid (fl f (k + 1) = fl f k) := fl_zero h0
        clear h0
        generalize fl f k = s at *
        obtain ⟨r, n⟩ := s
        simp only [] at k3 hn
        go_wp2_with fail
        go_roundg g
        case rel => exact ⟨k + 1, by omega, by go_num, by rw [HS.out], k2, by rw [HS.out]; exact k3, hb⟩
        case measure => omega
      · have d0 : (f k != 0) = true := by simpa using h0
        have HS : Hid (fl f (k + 1) = (upd (fl f k).1 (fl f k).2 (f k), (fl f k).2 + 1)) := fl_tile h0
        clear h0
        generalize fl f k = s at *
        obtain ⟨r, n⟩ := s
        simp only [] at k3 hn
        have hn4 : n < 4 := by omega
        have c3 := k3.cell (i := n) (by omega)
        have f3 := k3.free n
        go_wp2_with fail
        go_roundg g
        case rel => exact ⟨k + 1, by omega, by go_num, by rw [HS.out]; go_num, k2.setOther _ _ (by dsimp only; omega), by rw [HS.out]; exact k3.set (by omega) _, hb.out.setCell (by dsimp only; omega) _⟩
        case measure => omega
set_option maxHeartbeats 1000000 in
theorem implFlush_any (f : Nat → Int) (w : World) :
    Calls Try.prog 64 #[.agg (mk 4 f)] w fun e w' => e = .returned (.tuple #[.bool (flR f), .bool (rwO f)]) ∧ Below w.heap.size w w' := by
  have K1 := Blk.new w 4 f 24
  have HB := Lib.hid ((Below.refl w.heap.size w).alloc (Nat.le_refl _) (.cells (mk 4 f) 24))
  by_cases hV : VdRow f
  · rw [flR_yes hV, rwO_yes hV, ← fl_same]
    have HO := Lib.hid (rwO_yes hV)
    have iE : ∀ (f g : Nat → Int) (w : World), (Op.equalIn 10000 24 (.agg (mk 4 f)) (.agg (mk 4 g))).run Try.prog w = .ok (sameR f g) w := eqR 9998
    clear hV
    go_enter Try.func64, Try.ntmps64
    go_wp2_with ((with_reducible show wpList _ _ _ (Oper.mk _ (Op.load 24 _) _ _ _ _ :: _) _ _); refine loadR (K1) rfl rfl rfl ?_)
    refine (implIsRow_any _ _).mono ?_
    rw [HO.out]
    rintro e w1 ⟨rfl, hb⟩
    have K1 := K1.below hb K1.lt
    have HB : Hid (Below w.heap.size w w1) := HB.out.trans (hb.mono HB.out.size)
    clear hb
    go_wp2_with fail
    have a0 := fun (W : World) (h : Blk W w.heap.size 4 f 24) => h.cell (i := 0) (by omega)
    have a1 := fun (W : World) (h : Blk W w.heap.size 4 f 24) => h.cell (i := 1) (by omega)
    have a2 := fun (W : World) (h : Blk W w.heap.size 4 f 24) => h.cell (i := 2) (by omega)
    have a3 := fun (W : World) (h : Blk W w.heap.size 4 f 24) => h.cell (i := 3) (by omega)
    have ae : (#[.int .i64 (f 0), .int .i64 (f 1), .int .i64 (f 2), .int .i64 (f 3)] : Array Value) = mk 4 f := rfl
    go_region_held3 (fun w' => Blk w' w.heap.size 4 f 24 ∧ Below w.heap.size w w') (first | exact ⟨K1.drew, HB.out.drew⟩ | assumption) (first | (go_at_call 139; refine (flushed_any f _).mono ?_; rintro e w6 ⟨rfl, hb6⟩; have J := held4_step (by assumption) hb6; clear hb6) | fail)
    all_goals
      clear a0 a1 a2 a3 ae
      go_wp2_with fail
      go_ret2
      exact ⟨rfl, held4_below (by assumption)⟩
  · rw [flR_no hV, rwO_no hV]
    have HO := Lib.hid (rwO_no hV)
    clear hV
    go_enter Try.func64, Try.ntmps64
    go_wp2_with ((with_reducible show wpList _ _ _ (Oper.mk _ (Op.load 24 _) _ _ _ _ :: _) _ _); refine loadR (K1) rfl rfl rfl ?_)
    refine (implIsRow_any _ _).mono ?_
    rw [HO.out]
    rintro e w1 ⟨rfl, hb⟩
    have K1 := K1.below hb K1.lt
    have HB : Hid (Below w.heap.size w w1) := HB.out.trans (hb.mono HB.out.size)
    clear hb
    go_wp2_with fail
    go_ret2
    exact ⟨rfl, HB.out⟩
end Go.Proofs.Ytpiegllffkjneaa
