/-
  The contracts of the reference's PutTile and TakeTile, for every board, every cell and every number.
-/
import Derived.Test.YtpiegllffkjneaaSpecLine
import Derived.Test.YtpiegllffkjneaaBaseA
import Derived.Test.YtpiegllffkjneaaPlainA
namespace Go.Proofs.Ytpiegllffkjneaa
open Go.RowKit Plain
attribute [local go_sem] store_new

set_option maxHeartbeats 1000000 in
theorem specPut_any (f g : Nat → Int) (t : Int) (w : World) :
    Calls Try.prog 35 #[.agg (mk 16 f), .agg (mk 2 g), .int .i64 t] w fun e w' => e = .returned (.tuple #[.agg (mk 16 (putB f g t)), .bool (putO f g t)]) ∧ Below w.heap.size w w' := by
  have z16 := zero16
  have K1 := ((Blk.new w 16 f 27).alloc (.cells (mk 2 g) 49)).alloc (.cells (mk 16 fun _ => 0) 27)
  have K2 := (Blk.new (w.alloc (.cells (mk 16 f) 27)) 2 g 49).alloc (.cells (mk 16 fun _ => 0) 27)
  have K3 := Blk.new ((w.alloc (.cells (mk 16 f) 27)).alloc (.cells (mk 2 g) 49)) 16 (fun _ => 0) 27
  have HB := Lib.hid ((((Below.refl w.heap.size w).alloc (Nat.le_refl _) (.cells (mk 16 f) 27)).alloc (by simp) (.cells (mk 2 g) 49)).alloc (by simp; omega) (.cells (mk 16 fun _ => 0) 27))
  simp only [World.size_alloc] at K2 K3
  by_cases hV : Vd f
  · have HV := Lib.hid hV
    clear hV
    by_cases hC : CellIn g
    · obtain ⟨r, c, hr, hc, e0, e1, ep⟩ := cell_nat hC
      have HC := Lib.hid hC
      have E0 := Lib.hid e0
      have E1 := Lib.hid e1
      have EP := Lib.hid ep
      clear hC e0 e1 ep
      by_cases ht : 1 ≤ t ∧ t ≤ 17
      · by_cases h0 : f (r * 4 + c) = 0
        · obtain ⟨y1, y2⟩ := put_yes (f := f) (g := g) (t := t) ⟨HV.out, HC.out, ht, by rw [EP.out]; exact h0⟩
          rw [y1, y2, EP.out]
          clear y1 y2
          obtain ⟨t0, t1⟩ := ht
          have H0 := Lib.hid h0
          clear h0
          go_enter Try.func35, Try.ntmps35
          go_wp2_with ((with_reducible show wpList _ _ _ (Oper.mk _ (Op.load 27 _) _ _ _ _ :: _) _ _); refine loadB (K1) rfl rfl rfl ?_)
          refine (l2Board_yes _ _ HV.out).mono ?_
          rintro e w1 ⟨rfl, hb2⟩
          have K1 := K1.below hb2 K1.lt
          have K2 := K2.below hb2 K2.lt
          have K3 := K3.below hb2 K3.lt
          have HB : Hid (Below w.heap.size w w1) := HB.out.trans (hb2.mono HB.out.size)
          clear hb2
          go_wp2_with ((with_reducible show wpList _ _ _ (Oper.mk _ (Op.load 49 _) _ _ _ (some _) :: _) _ _); refine loadgC (K2) rfl rfl rfl ?_)
          refine (l2Cell_yes _ _ HC.out).mono ?_
          rintro e w2 ⟨rfl, hb2⟩
          have K1 := K1.below hb2 K1.lt
          have K2 := K2.below hb2 K2.lt
          have K3 := K3.below hb2 K3.lt
          have HB : Hid (Below w.heap.size w w2) := HB.out.trans (hb2.mono HB.out.size)
          clear hb2
          go_wp2_with fail
          refine (l2Tile_yes _ _ t0 t1).mono ?_
          rintro e w' ⟨rfl, rfl⟩
          go_wp2_with (first | ((with_reducible show wpList _ _ _ (Oper.mk _ (Op.load 27 _) _ _ _ (some _) :: _) _ _); refine loadgB (K1) rfl rfl rfl ?_) | ((with_reducible show wpList _ _ _ (Oper.mk _ (Op.load 49 _) _ _ _ (some _) :: _) _ _); refine loadgC (K2) rfl rfl rfl ?_))
          refine (l2At_any _ _ r c _ E0.out E1.out hr hc).mono ?_
          rw [H0.out]
          rintro e w3 ⟨rfl, hb2⟩
          have K1 := K1.below hb2 K1.lt
          have K2 := K2.below hb2 K2.lt
          have K3 := K3.below hb2 K3.lt
          have HB : Hid (Below w.heap.size w w3) := HB.out.trans (hb2.mono HB.out.size)
          clear hb2
          go_wp2_with (first | ((with_reducible show wpList _ _ _ (Oper.mk _ (Op.load 27 _) _ _ _ _ :: _) _ _); refine loadB (K1) rfl rfl rfl ?_) | ((with_reducible show wpList _ _ _ (Oper.mk _ (Op.load 49 _) _ _ _ _ :: _) _ _); refine loadC (K2) rfl rfl rfl ?_))
          refine (l2Put_any _ _ r c _ _ E0.out E1.out hr hc).mono ?_
          rintro e w4 ⟨rfl, hb2⟩
          have K1 := K1.below hb2 K1.lt
          have K2 := K2.below hb2 K2.lt
          have K3 := K3.below hb2 K3.lt
          have HB : Hid (Below w.heap.size w w4) := HB.out.trans (hb2.mono HB.out.size)
          clear hb2
          go_wp2_with ((with_reducible show wpList _ _ _ (Oper.mk _ (Op.store 27 _ _) _ _ _ _ :: _) _ _); refine storeB (K3) rfl rfl rfl rfl ?_)
          try simp only [Exit.inBlock, Exit.then]
          exact retctB (K3.row 16 _) rfl rfl rfl ⟨rfl, below_setRow HB.out (by omega) _⟩
        · obtain ⟨y1, y2⟩ := put_no (f := f) (g := g) (t := t) (fun h => h0 (by rw [← EP.out]; exact h.2.2.2))
          rw [y1, y2]
          clear y1 y2
          obtain ⟨t0, t1⟩ := ht
          have d0 : (f (r * 4 + c) != 0) = true := by simpa using h0
          clear h0
          go_enter Try.func35, Try.ntmps35
          go_wp2_with ((with_reducible show wpList _ _ _ (Oper.mk _ (Op.load 27 _) _ _ _ _ :: _) _ _); refine loadB (K1) rfl rfl rfl ?_)
          refine (l2Board_yes _ _ HV.out).mono ?_
          rintro e w1 ⟨rfl, hb2⟩
          have K1 := K1.below hb2 K1.lt
          have K2 := K2.below hb2 K2.lt
          have K3 := K3.below hb2 K3.lt
          have HB : Hid (Below w.heap.size w w1) := HB.out.trans (hb2.mono HB.out.size)
          clear hb2
          go_wp2_with ((with_reducible show wpList _ _ _ (Oper.mk _ (Op.load 49 _) _ _ _ (some _) :: _) _ _); refine loadgC (K2) rfl rfl rfl ?_)
          refine (l2Cell_yes _ _ HC.out).mono ?_
          rintro e w2 ⟨rfl, hb2⟩
          have K1 := K1.below hb2 K1.lt
          have K2 := K2.below hb2 K2.lt
          have K3 := K3.below hb2 K3.lt
          have HB : Hid (Below w.heap.size w w2) := HB.out.trans (hb2.mono HB.out.size)
          clear hb2
          go_wp2_with fail
          refine (l2Tile_yes _ _ t0 t1).mono ?_
          rintro e w' ⟨rfl, rfl⟩
          go_wp2_with (first | ((with_reducible show wpList _ _ _ (Oper.mk _ (Op.load 27 _) _ _ _ (some _) :: _) _ _); refine loadgB (K1) rfl rfl rfl ?_) | ((with_reducible show wpList _ _ _ (Oper.mk _ (Op.load 49 _) _ _ _ (some _) :: _) _ _); refine loadgC (K2) rfl rfl rfl ?_))
          refine (l2At_any _ _ r c _ E0.out E1.out hr hc).mono ?_
          rintro e w3 ⟨rfl, hb2⟩
          have K1 := K1.below hb2 K1.lt
          have K2 := K2.below hb2 K2.lt
          have K3 := K3.below hb2 K3.lt
          have HB : Hid (Below w.heap.size w w3) := HB.out.trans (hb2.mono HB.out.size)
          clear hb2
          go_wp2_with ((with_reducible show wpList _ _ _ (Oper.mk _ (Op.store 27 _ _) _ _ _ _ :: _) _ _); refine storeB (K3) rfl rfl rfl rfl ?_)
          try simp only [Exit.inBlock, Exit.then]
          exact retctB (K3.row 16 _) rfl rfl rfl ⟨rfl, below_setRow HB.out (by omega) _⟩
      · obtain ⟨y1, y2⟩ := put_no (f := f) (g := g) (t := t) (fun h => ht h.2.2.1)
        rw [y1, y2]
        clear y1 y2
        have HT := Lib.hid (show t < 1 ∨ 17 < t by omega)
        clear ht
        go_enter Try.func35, Try.ntmps35
        go_wp2_with ((with_reducible show wpList _ _ _ (Oper.mk _ (Op.load 27 _) _ _ _ _ :: _) _ _); refine loadB (K1) rfl rfl rfl ?_)
        refine (l2Board_yes _ _ HV.out).mono ?_
        rintro e w1 ⟨rfl, hb2⟩
        have K1 := K1.below hb2 K1.lt
        have K2 := K2.below hb2 K2.lt
        have K3 := K3.below hb2 K3.lt
        have HB : Hid (Below w.heap.size w w1) := HB.out.trans (hb2.mono HB.out.size)
        clear hb2
        go_wp2_with ((with_reducible show wpList _ _ _ (Oper.mk _ (Op.load 49 _) _ _ _ (some _) :: _) _ _); refine loadgC (K2) rfl rfl rfl ?_)
        refine (l2Cell_yes _ _ HC.out).mono ?_
        rintro e w2 ⟨rfl, hb2⟩
        have K1 := K1.below hb2 K1.lt
        have K2 := K2.below hb2 K2.lt
        have K3 := K3.below hb2 K3.lt
        have HB : Hid (Below w.heap.size w w2) := HB.out.trans (hb2.mono HB.out.size)
        clear hb2
        go_wp2_with fail
        refine (l2Tile_no _ _ HT.out).mono ?_
        rintro e w' ⟨rfl, rfl⟩
        go_wp2_with ((with_reducible show wpList _ _ _ (Oper.mk _ (Op.store 27 _ _) _ _ _ _ :: _) _ _); refine storeB (K3) rfl rfl rfl rfl ?_)
        try simp only [Exit.inBlock, Exit.then]
        exact retctB (K3.row 16 _) rfl rfl rfl ⟨rfl, below_setRow HB.out (by omega) _⟩
    · obtain ⟨y1, y2⟩ := put_no (f := f) (g := g) (t := t) (fun h => hC h.2.1)
      rw [y1, y2]
      clear y1 y2
      have HC := Lib.hid hC
      clear hC
      go_enter Try.func35, Try.ntmps35
      go_wp2_with ((with_reducible show wpList _ _ _ (Oper.mk _ (Op.load 27 _) _ _ _ _ :: _) _ _); refine loadB (K1) rfl rfl rfl ?_)
      refine (l2Board_yes _ _ HV.out).mono ?_
      rintro e w1 ⟨rfl, hb2⟩
      have K1 := K1.below hb2 K1.lt
      have K2 := K2.below hb2 K2.lt
      have K3 := K3.below hb2 K3.lt
      have HB : Hid (Below w.heap.size w w1) := HB.out.trans (hb2.mono HB.out.size)
      clear hb2
      go_wp2_with ((with_reducible show wpList _ _ _ (Oper.mk _ (Op.load 49 _) _ _ _ (some _) :: _) _ _); refine loadgC (K2) rfl rfl rfl ?_)
      refine (l2Cell_no _ _ HC.out).mono ?_
      rintro e w2 ⟨rfl, hb2⟩
      have K1 := K1.below hb2 K1.lt
      have K2 := K2.below hb2 K2.lt
      have K3 := K3.below hb2 K3.lt
      have HB : Hid (Below w.heap.size w w2) := HB.out.trans (hb2.mono HB.out.size)
      clear hb2
      go_wp2_with ((with_reducible show wpList _ _ _ (Oper.mk _ (Op.store 27 _ _) _ _ _ _ :: _) _ _); refine storeB (K3) rfl rfl rfl rfl ?_)
      try simp only [Exit.inBlock, Exit.then]
      exact retctB (K3.row 16 _) rfl rfl rfl ⟨rfl, below_setRow HB.out (by omega) _⟩
  · obtain ⟨y1, y2⟩ := put_no (f := f) (g := g) (t := t) (fun h => hV h.1)
    rw [y1, y2]
    clear y1 y2
    have HV := Lib.hid hV
    clear hV
    go_enter Try.func35, Try.ntmps35
    go_wp2_with ((with_reducible show wpList _ _ _ (Oper.mk _ (Op.load 27 _) _ _ _ _ :: _) _ _); refine loadB (K1) rfl rfl rfl ?_)
    refine (l2Board_no _ _ HV.out).mono ?_
    rintro e w1 ⟨rfl, hb2⟩
    have K1 := K1.below hb2 K1.lt
    have K2 := K2.below hb2 K2.lt
    have K3 := K3.below hb2 K3.lt
    have HB : Hid (Below w.heap.size w w1) := HB.out.trans (hb2.mono HB.out.size)
    clear hb2
    go_wp2_with ((with_reducible show wpList _ _ _ (Oper.mk _ (Op.store 27 _ _) _ _ _ _ :: _) _ _); refine storeB (K3) rfl rfl rfl rfl ?_)
    try simp only [Exit.inBlock, Exit.then]
    exact retctB (K3.row 16 _) rfl rfl rfl ⟨rfl, below_setRow HB.out (by omega) _⟩
end Go.Proofs.Ytpiegllffkjneaa
