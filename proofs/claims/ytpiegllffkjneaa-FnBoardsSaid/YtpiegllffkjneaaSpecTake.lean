/-
  The contract of the reference's TakeTile, for every board and every cell.
-/
import Derived.Test.YtpiegllffkjneaaSpecLine
import Derived.Test.YtpiegllffkjneaaBaseA
import Derived.Test.YtpiegllffkjneaaPlainA
import Derived.Deep.RegionHeld3
namespace Go.Proofs.Ytpiegllffkjneaa
open Go.RowKit Plain
attribute [local go_sem] store_new

/-- What the loads of a drawn region find in every world that comes up. -/
theorem held2_step {w W w6 : World} {b c n m : Nat} {f g : Nat → Int} {t u : TypeId} (h : Blk W b n f t ∧ Blk W c m g u ∧ Below w.heap.size w W) (hb : Below W.heap.size W w6) : Blk w6 b n f t ∧ Blk w6 c m g u ∧ Below w.heap.size w w6 :=
  ⟨h.1.below hb h.1.lt, h.2.1.below hb h.2.1.lt, h.2.2.trans (hb.mono h.2.2.size)⟩
theorem held2_row {w W : World} {b c d n m : Nat} {f g : Nat → Int} {t u : TypeId} {cs : Array Value} (h : Blk W b n f t ∧ Blk W c m g u ∧ Below w.heap.size w W) (h1 : b ≠ d) (h2 : c ≠ d) (h3 : w.heap.size ≤ d) : Blk (W.setRow d cs) b n f t ∧ Blk (W.setRow d cs) c m g u ∧ Below w.heap.size w (W.setRow d cs) :=
  ⟨h.1.rowOther _ _ h1, h.2.1.rowOther _ _ h2, below_setRow h.2.2 h3 _⟩
theorem held2_below {w W : World} {b c n m B : Nat} {f g : Nat → Int} {t u : TypeId} (h : Blk W b n f t ∧ Blk W c m g u ∧ Below B w W) : Below B w W := h.2.2
set_option maxHeartbeats 4000000 in
theorem specTake_any (f g : Nat → Int) (w : World) :
    Calls Try.prog 38 #[.agg (mk 16 f), .agg (mk 2 g)] w fun e w' => e = .returned (.tuple #[.agg (mk 16 (takeB f g)), .int .i64 (takeT f g), .bool (takeO f g)]) ∧ Below w.heap.size w w' := by
  have z16 := zero16
  have K1 := ((Blk.new w 16 f 27).alloc (.cells (mk 2 g) 49)).alloc (.cells (mk 16 fun _ => 0) 27)
  have K2 := (Blk.new (w.alloc (.cells (mk 16 f) 27)) 2 g 49).alloc (.cells (mk 16 fun _ => 0) 27)
  have K3 := Blk.new ((w.alloc (.cells (mk 16 f) 27)).alloc (.cells (mk 2 g) 49)) 16 (fun _ => 0) 27
  have HB := Lib.hid ((((Below.refl w.heap.size w).alloc (Nat.le_refl _) (.cells (mk 16 f) 27)).alloc (by simp) (.cells (mk 2 g) 49)).alloc (by simp; omega) (.cells (mk 16 fun _ => 0) 27))
  simp only [World.size_alloc] at K2 K3
  by_cases hV : Vd f
  · have HV := Lib.hid hV
    clear hV
    by_cases hC : CellIn g
    · obtain ⟨r, c, hr, hc, e0, e1, ep⟩ := cell_nat hC
      have HC := Lib.hid hC
      have E0 := Lib.hid e0
      have E1 := Lib.hid e1
      have EP := Lib.hid ep
      clear hC e0 e1 ep
      by_cases h0 : f (r * 4 + c) = 0
      · obtain ⟨y1, y2, y3⟩ := take_no (f := f) (g := g) (fun h => h.2.2 (by rw [EP.out]; exact h0))
        rw [y1, y2, y3]
        clear y1 y2 y3
        have H0 := Lib.hid h0
        clear h0
        go_enter Try.func38, Try.ntmps38
        go_wp2_with ((with_reducible show wpList _ _ _ (Oper.mk _ (Op.load 27 _) _ _ _ _ :: _) _ _); refine loadB (K1) rfl rfl rfl ?_)
        refine (l2Board_yes _ _ HV.out).mono ?_
        rintro e w1 ⟨rfl, hb2⟩
        have K1 := K1.below hb2 K1.lt
        have K2 := K2.below hb2 K2.lt
        have K3 := K3.below hb2 K3.lt
        have HB : Hid (Below w.heap.size w w1) := HB.out.trans (hb2.mono HB.out.size)
        clear hb2
        go_wp2_with ((with_reducible show wpList _ _ _ (Oper.mk _ (Op.load 49 _) _ _ _ (some _) :: _) _ _); refine loadgC (K2) rfl rfl rfl ?_)
        refine (l2Cell_yes _ _ HC.out).mono ?_
        rintro e w2 ⟨rfl, hb2⟩
        have K1 := K1.below hb2 K1.lt
        have K2 := K2.below hb2 K2.lt
        have K3 := K3.below hb2 K3.lt
        have HB : Hid (Below w.heap.size w w2) := HB.out.trans (hb2.mono HB.out.size)
        clear hb2
        go_wp2_with (first | ((with_reducible show wpList _ _ _ (Oper.mk _ (Op.load 27 _) _ _ _ (some _) :: _) _ _); refine loadgB (K1) rfl rfl rfl ?_) | ((with_reducible show wpList _ _ _ (Oper.mk _ (Op.load 49 _) _ _ _ (some _) :: _) _ _); refine loadgC (K2) rfl rfl rfl ?_))
        refine (l2At_any _ _ r c _ E0.out E1.out hr hc).mono ?_
        rw [H0.out]
        rintro e w3 ⟨rfl, hb2⟩
        have K1 := K1.below hb2 K1.lt
        have K2 := K2.below hb2 K2.lt
        have K3 := K3.below hb2 K3.lt
        have HB : Hid (Below w.heap.size w w3) := HB.out.trans (hb2.mono HB.out.size)
        clear hb2
        go_wp2_with ((with_reducible show wpList _ _ _ (Oper.mk _ (Op.store 27 _ _) _ _ _ _ :: _) _ _); refine storeB (K3) rfl rfl rfl rfl ?_)
        try simp only [Exit.inBlock, Exit.then]
        exact retcttB (K3.row 16 _) rfl rfl rfl ⟨rfl, below_setRow HB.out (by omega) _⟩
      · obtain ⟨y1, y2, y3⟩ := take_yes (f := f) (g := g) ⟨HV.out, HC.out, by rw [EP.out]; exact h0⟩
        rw [y1, y2, y3, EP.out]
        clear y1 y2 y3
        have d0 : (f (r * 4 + c) == 0) = false := by simpa using h0
        clear h0
        go_enter Try.func38, Try.ntmps38
        go_wp2_with ((with_reducible show wpList _ _ _ (Oper.mk _ (Op.load 27 _) _ _ _ _ :: _) _ _); refine loadB (K1) rfl rfl rfl ?_)
        refine (l2Board_yes _ _ HV.out).mono ?_
        rintro e w1 ⟨rfl, hb2⟩
        have K1 := K1.below hb2 K1.lt
        have K2 := K2.below hb2 K2.lt
        have K3 := K3.below hb2 K3.lt
        have HB : Hid (Below w.heap.size w w1) := HB.out.trans (hb2.mono HB.out.size)
        clear hb2
        go_wp2_with ((with_reducible show wpList _ _ _ (Oper.mk _ (Op.load 49 _) _ _ _ (some _) :: _) _ _); refine loadgC (K2) rfl rfl rfl ?_)
        refine (l2Cell_yes _ _ HC.out).mono ?_
        rintro e w2 ⟨rfl, hb2⟩
        have K1 := K1.below hb2 K1.lt
        have K2 := K2.below hb2 K2.lt
        have K3 := K3.below hb2 K3.lt
        have HB : Hid (Below w.heap.size w w2) := HB.out.trans (hb2.mono HB.out.size)
        clear hb2
        go_wp2_with (first | ((with_reducible show wpList _ _ _ (Oper.mk _ (Op.load 27 _) _ _ _ (some _) :: _) _ _); refine loadgB (K1) rfl rfl rfl ?_) | ((with_reducible show wpList _ _ _ (Oper.mk _ (Op.load 49 _) _ _ _ (some _) :: _) _ _); refine loadgC (K2) rfl rfl rfl ?_))
        refine (l2At_any _ _ r c _ E0.out E1.out hr hc).mono ?_
        rintro e w3 ⟨rfl, hb2⟩
        have K1 := K1.below hb2 K1.lt
        have K2 := K2.below hb2 K2.lt
        have K3 := K3.below hb2 K3.lt
        have HB : Hid (Below w.heap.size w w3) := HB.out.trans (hb2.mono HB.out.size)
        clear hb2
        clear z16
        go_wp2_with fail
        have a0 := fun (W : World) (h : Blk W w.heap.size 16 f 27) => h.cell (i := 0) (by omega)
        have a1 := fun (W : World) (h : Blk W w.heap.size 16 f 27) => h.cell (i := 1) (by omega)
        have a2 := fun (W : World) (h : Blk W w.heap.size 16 f 27) => h.cell (i := 2) (by omega)
        have a3 := fun (W : World) (h : Blk W w.heap.size 16 f 27) => h.cell (i := 3) (by omega)
        have a4 := fun (W : World) (h : Blk W w.heap.size 16 f 27) => h.cell (i := 4) (by omega)
        have a5 := fun (W : World) (h : Blk W w.heap.size 16 f 27) => h.cell (i := 5) (by omega)
        have a6 := fun (W : World) (h : Blk W w.heap.size 16 f 27) => h.cell (i := 6) (by omega)
        have a7 := fun (W : World) (h : Blk W w.heap.size 16 f 27) => h.cell (i := 7) (by omega)
        have a8 := fun (W : World) (h : Blk W w.heap.size 16 f 27) => h.cell (i := 8) (by omega)
        have a9 := fun (W : World) (h : Blk W w.heap.size 16 f 27) => h.cell (i := 9) (by omega)
        have a10 := fun (W : World) (h : Blk W w.heap.size 16 f 27) => h.cell (i := 10) (by omega)
        have a11 := fun (W : World) (h : Blk W w.heap.size 16 f 27) => h.cell (i := 11) (by omega)
        have a12 := fun (W : World) (h : Blk W w.heap.size 16 f 27) => h.cell (i := 12) (by omega)
        have a13 := fun (W : World) (h : Blk W w.heap.size 16 f 27) => h.cell (i := 13) (by omega)
        have a14 := fun (W : World) (h : Blk W w.heap.size 16 f 27) => h.cell (i := 14) (by omega)
        have a15 := fun (W : World) (h : Blk W w.heap.size 16 f 27) => h.cell (i := 15) (by omega)
        have ae : (#[.int .i64 (f 0), .int .i64 (f 1), .int .i64 (f 2), .int .i64 (f 3), .int .i64 (f 4), .int .i64 (f 5), .int .i64 (f 6), .int .i64 (f 7), .int .i64 (f 8), .int .i64 (f 9), .int .i64 (f 10), .int .i64 (f 11), .int .i64 (f 12), .int .i64 (f 13), .int .i64 (f 14), .int .i64 (f 15)] : Array Value) = mk 16 f := rfl
        have b0 := fun (W : World) (h : Blk W (w.heap.size + 1) 2 g 49) => h.cell (i := 0) (by omega)
        have b1 := fun (W : World) (h : Blk W (w.heap.size + 1) 2 g 49) => h.cell (i := 1) (by omega)
        have be : (#[.int .i64 (g 0), .int .i64 (g 1)] : Array Value) = mk 2 g := rfl
        have ms := mk_size 16 (upd f (r * 4 + c) 0)
        have hst := fun (W : World) (h : Blk W (w.heap.size + 1 + 1) 16 (fun _ => 0) 27) => run_store_blk (P := Try.prog) (upd f (r * 4 + c) 0) h
        have D3 := K3.drew
        go_region_held3 (fun w' => Blk w' w.heap.size 16 f 27 ∧ Blk w' (w.heap.size + 1) 2 g 49 ∧ Below w.heap.size w w') (first | exact ⟨K1.drew, K2.drew, HB.out.drew⟩ | assumption | exact held2_row (by assumption) (by omega) (by omega) (by omega)) (first | (go_at_call 115; refine (l2Put_any _ _ r c _ _ E0.out E1.out hr hc).mono ?_; rintro e w6 ⟨rfl, hb6⟩; have J := held2_step (by assumption) hb6; have J3 : Blk w6 (w.heap.size + 1 + 1) 16 (fun _ => 0) 27 := Blk.below (by assumption) hb6 (Blk.lt (by assumption)); clear hb6) | (go_at_call 114; refine (l2At_any _ _ r c _ E0.out E1.out hr hc).mono ?_; rintro e w7 ⟨rfl, hb7⟩; have J := held2_step (by assumption) hb7; have J3 : Blk w7 (w.heap.size + 1 + 1) 16 (fun _ => 0) 27 := Blk.below (by assumption) hb7 (Blk.lt (by assumption)); clear hb7))
        all_goals
          clear a0 a1 a2 a3 a4 a5 a6 a7 a8 a9 a10 a11 a12 a13 a14 a15 ae b0 b1 be ms hst
          go_wp2_with fail
          try simp only [Exit.inBlock, Exit.then]
          exact retcttB (Blk.row (by assumption) 16 _) rfl rfl rfl ⟨rfl, below_setRow (held2_below (by assumption)) (by omega) _⟩
    · obtain ⟨y1, y2, y3⟩ := take_no (f := f) (g := g) (fun h => hC h.2.1)
      rw [y1, y2, y3]
      clear y1 y2 y3
      have HC := Lib.hid hC
      clear hC
      go_enter Try.func38, Try.ntmps38
      go_wp2_with ((with_reducible show wpList _ _ _ (Oper.mk _ (Op.load 27 _) _ _ _ _ :: _) _ _); refine loadB (K1) rfl rfl rfl ?_)
      refine (l2Board_yes _ _ HV.out).mono ?_
      rintro e w1 ⟨rfl, hb2⟩
      have K1 := K1.below hb2 K1.lt
      have K2 := K2.below hb2 K2.lt
      have K3 := K3.below hb2 K3.lt
      have HB : Hid (Below w.heap.size w w1) := HB.out.trans (hb2.mono HB.out.size)
      clear hb2
      go_wp2_with ((with_reducible show wpList _ _ _ (Oper.mk _ (Op.load 49 _) _ _ _ (some _) :: _) _ _); refine loadgC (K2) rfl rfl rfl ?_)
      refine (l2Cell_no _ _ HC.out).mono ?_
      rintro e w2 ⟨rfl, hb2⟩
      have K1 := K1.below hb2 K1.lt
      have K2 := K2.below hb2 K2.lt
      have K3 := K3.below hb2 K3.lt
      have HB : Hid (Below w.heap.size w w2) := HB.out.trans (hb2.mono HB.out.size)
      clear hb2
      go_wp2_with ((with_reducible show wpList _ _ _ (Oper.mk _ (Op.store 27 _ _) _ _ _ _ :: _) _ _); refine storeB (K3) rfl rfl rfl rfl ?_)
      try simp only [Exit.inBlock, Exit.then]
      exact retcttB (K3.row 16 _) rfl rfl rfl ⟨rfl, below_setRow HB.out (by omega) _⟩
  · obtain ⟨y1, y2, y3⟩ := take_no (f := f) (g := g) (fun h => hV h.1)
    rw [y1, y2, y3]
    clear y1 y2 y3
    have HV := Lib.hid hV
    clear hV
    go_enter Try.func38, Try.ntmps38
    go_wp2_with ((with_reducible show wpList _ _ _ (Oper.mk _ (Op.load 27 _) _ _ _ _ :: _) _ _); refine loadB (K1) rfl rfl rfl ?_)
    refine (l2Board_no _ _ HV.out).mono ?_
    rintro e w1 ⟨rfl, hb2⟩
    have K1 := K1.below hb2 K1.lt
    have K2 := K2.below hb2 K2.lt
    have K3 := K3.below hb2 K3.lt
    have HB : Hid (Below w.heap.size w w1) := HB.out.trans (hb2.mono HB.out.size)
    clear hb2
    go_wp2_with ((with_reducible show wpList _ _ _ (Oper.mk _ (Op.store 27 _ _) _ _ _ _ :: _) _ _); refine storeB (K3) rfl rfl rfl rfl ?_)
    try simp only [Exit.inBlock, Exit.then]
    exact retcttB (K3.row 16 _) rfl rfl rfl ⟨rfl, below_setRow HB.out (by omega) _⟩
end Go.Proofs.Ytpiegllffkjneaa
