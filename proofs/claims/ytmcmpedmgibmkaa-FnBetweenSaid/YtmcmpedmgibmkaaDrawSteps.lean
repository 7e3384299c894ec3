/-
  The contracts of the reference's draws of steps: step5, DrawStepsOf, DrawDoStep, DrawStepBetween.
-/
import Derived.Test.YtmcmpedmgibmkaaDrawTight
import Derived.Test.YtmcmpedmgibmkaaSpecBetween
import Derived.Deep.CutRange
namespace Go.Proofs.Ytmcmpedmgibmkaa
open Go.RowKit Plain
attribute [local go_sem] store_new
set_option linter.unusedSimpArgs false
set_option linter.unusedVariables false

/-- While a step is drawn: the drawer, the board, the result's block, the step's block. -/
def S5 (w : World) (B m b5 : Nat) (f g : Nat → Int) (W : World) : Prop := Dr w B m W ∧ Blk W w.heap.size 16 f 28 ∧ Blk W (w.heap.size + 1) 4 (fun _ => 0) 90 ∧ Blk W b5 4 g 90 ∧ w.heap.size + 1 < b5
section
variable {w W W' : World} {B m m' b5 : Nat} {f g : Nat → Int}
theorem S5.call (h : S5 w B m b5 f g W) (hc : Cur W' B m') (ht : Turned B W W') : S5 w B m' b5 f g W' := by
  obtain ⟨h1, h2, h3, h4, h5⟩ := h
  have := h1.2.2
  exact ⟨h1.call hc ht, h2.turned ht (by omega), h3.turned ht (by omega), h4.turned ht (by omega), h5⟩
theorem S5.below (h : S5 w B m b5 f g W) (hb : Below W.heap.size W W') : S5 w B m b5 f g W' := h.call (h.1.1.kept hb) (turned_of hb)
theorem S5.alloc (h : S5 w B m b5 f g W) (o : Obj) : S5 w B m b5 f g (W.alloc o) := by
  obtain ⟨h1, h2, h3, h4, h5⟩ := h
  exact ⟨h1.alloc o, h2.alloc o, h3.alloc o, h4.alloc o, h5⟩
theorem S5.set (h : S5 w B m b5 f g W) {i : Nat} (hi : i < 4) (v : Int) : S5 w B m b5 f (upd g i v) (W.setCell ⟨b5, i, none⟩ (.int .i64 v)) := by
  obtain ⟨h1, h2, h3, h4, h5⟩ := h
  exact ⟨h1.set (by dsimp only; omega) _, h2.setOther _ _ (by dsimp only; omega), h3.setOther _ _ (by dsimp only; omega), h4.set hi v, h5⟩
theorem S5.put (h : S5 w B m b5 f g W) (k : Nat → Int) : S5 w B m b5 f k (W.setRow b5 (mk 4 k)) := by
  obtain ⟨h1, h2, h3, h4, h5⟩ := h
  exact ⟨h1.row (by omega) _, h2.rowOther _ _ (by omega), h3.rowOther _ _ (by omega), h4.row 4 k, h5⟩
theorem S5.back (h : S5 w B m b5 f g W) (hm : m ≤ m') : Cur (W.setRow (w.heap.size + 1) (mk 4 g)) B m' ∧ Turned B w (W.setRow (w.heap.size + 1) (mk 4 g)) :=
  ⟨(h.1.row (by omega) _).1.more hm, (h.1.row (by omega) _).2.1⟩
end
/-- While two things are drawn: the drawer behind the two results, what lay before, the results' blocks, a board's block. -/
def DQ (w : World) (m n : Nat) (t : TypeId) (b5 : Nat) (f p q : Nat → Int) (W : World) : Prop := Cur W (w.heap.size + 2) m ∧ Below w.heap.size w W ∧ Blk W w.heap.size 16 p 28 ∧ Blk W (w.heap.size + 1) n q t ∧ Blk W b5 16 f 28 ∧ w.heap.size + 2 < b5
section
variable {w W W' : World} {m m' n b5 : Nat} {t : TypeId} {f p q : Nat → Int}
theorem DQ.call (h : DQ w m n t b5 f p q W) (hc : Cur W' (w.heap.size + 2) m') (ht : Turned (w.heap.size + 2) W W') : DQ w m' n t b5 f p q W' := by
  obtain ⟨h1, h2, h3, h4, h5, h6⟩ := h
  exact ⟨hc, h2.trans (ht.below h2.size (by omega)), h3.turned ht (by omega), h4.turned ht (by omega), h5.turned ht (by omega), h6⟩
theorem DQ.below (h : DQ w m n t b5 f p q W) (hb : Below W.heap.size W W') : DQ w m n t b5 f p q W' := h.call (h.1.kept hb) (turned_of hb)
theorem DQ.alloc (h : DQ w m n t b5 f p q W) (o : Obj) : DQ w m n t b5 f p q (W.alloc o) := by
  obtain ⟨h1, h2, h3, h4, h5, h6⟩ := h
  exact ⟨h1.alloc o, h2.alloc h2.size o, h3.alloc o, h4.alloc o, h5.alloc o, h6⟩
theorem DQ.drew (h : DQ w m n t b5 f p q W) : DQ w m n t b5 f p q W.drew := by
  obtain ⟨h1, h2, h3, h4, h5, h6⟩ := h
  exact ⟨h1.drew, h2.drew, h3.drew, h4.drew, h5.drew, h6⟩
theorem DQ.rowOther (h : DQ w m n t b5 f p q W) (c : Nat) (hc : b5 < c) (cs : Array Value) : DQ w m n t b5 f p q (W.setRow c cs) := by
  obtain ⟨h1, h2, h3, h4, h5, h6⟩ := h
  exact ⟨h1.rowNew (by omega) _, below_setRow h2 (by omega) _, h3.rowOther _ _ (by omega), h4.rowOther _ _ (by omega), h5.rowOther _ _ (by omega), h6⟩
/-- The same when nothing is drawn any more. -/
def DZ (w : World) (n : Nat) (t : TypeId) (b5 : Nat) (f p q : Nat → Int) (W : World) : Prop := True ∧ Below w.heap.size w W ∧ Blk W w.heap.size 16 p 28 ∧ Blk W (w.heap.size + 1) n q t ∧ Blk W b5 16 f 28 ∧ w.heap.size + 2 < b5
theorem DQ.putA (h : DQ w m n t b5 f p q W) (k : Nat → Int) : DZ w n t b5 f k q (W.setRow w.heap.size (mk 16 k)) := by
  obtain ⟨h1, h2, h3, h4, h5, h6⟩ := h
  exact ⟨trivial, below_setRow h2 (Nat.le_refl _) _, h3.row 16 k, h4.rowOther _ _ (by omega), h5.rowOther _ _ (by omega), h6⟩
theorem DZ.putB (h : DZ w n t b5 f p q W) (k : Nat → Int) : DZ w n t b5 f p k (W.setRow (w.heap.size + 1) (mk n k)) := by
  obtain ⟨h1, h2, h3, h4, h5, h6⟩ := h
  exact ⟨trivial, below_setRow h2 (by omega) _, h3.rowOther _ _ (by omega), h4.row n k, h5.rowOther _ _ (by omega), h6⟩
end
set_option maxHeartbeats 4000000 in
set_option maxRecDepth 20000 in
theorem step5_any (f : Nat → Int) (w : World) (B m : Nat) (hc : Cur w B m) (hm : m ≤ 999980000) :
    Calls Try.prog 69 #[.pointer (some ⟨B, 0, none⟩), .agg (mk 16 f)] w fun e w' => ∃ g, e = .returned (.agg (mk 4 g)) ∧ Cur w' B (m + 30) ∧ Turned B w w' := by
  have z4 := zero4
  have HD := Lib.hid (((Dr.start hc).alloc (.cells (mk 16 f) 28)).alloc (.cells (mk 4 fun _ => 0) 90))
  have K3 := (Blk.new w 16 f 28).alloc (.cells (mk 4 fun _ => 0) 90)
  have K4 := Blk.new (w.alloc (.cells (mk 16 f) 28)) 4 (fun _ => 0) 90
  have h1 : (w.alloc (.cells (mk 16 f) 28)).heap.size = w.heap.size + 1 := by simp
  rw [h1] at K4
  have hB := hc.lt
  clear hc h1
  go_enter Try.func69, Try.ntmps69
  go_wp2_with fail
  refine (side_any _ B _ HD.out.1 (by omega)).mono ?_
  rintro e w1 ⟨d, rfl, hc2, ht2⟩
  have HD := Lib.hid (HD.out.call hc2 ht2)
  have K3 := K3.turned ht2 (by omega)
  have K4 := K4.turned ht2 (by omega)
  clear hc2 ht2
  go_wp2_with fail
  refine (cell_any _ B _ HD.out.1 (by omega)).mono ?_
  rintro e w2 ⟨c, rfl, hc2, ht2⟩
  have HD := Lib.hid (HD.out.call hc2 ht2)
  have K3 := K3.turned ht2 (by omega)
  have K4 := K4.turned ht2 (by omega)
  clear hc2 ht2
  go_wp2_with fail
  refine (pick_any _ B _ 10 HD.out.1 (by omega) (by omega) (by omega)).mono ?_
  rintro e w3 ⟨k, hk, rfl, hc2, ht2⟩
  have HD := Lib.hid (HD.out.call hc2 ht2)
  have K3 := K3.turned ht2 (by omega)
  have K4 := K4.turned ht2 (by omega)
  clear hc2 ht2
  obtain ⟨q, hq, hq0, hq1⟩ : ∃ q : Int, (k : Int).tdiv 9 = q ∧ 0 ≤ q ∧ q ≤ 1 := ⟨_, rfl, by rw [Int.tdiv_eq_ediv_of_nonneg (by omega)]; omega, by rw [Int.tdiv_eq_ediv_of_nonneg (by omega)]; omega⟩
  have hw1 : IntKind.i64.wrap ((k : Int).tdiv 9) = q := by rw [hq]; exact IntWalk.i64_in _ (by omega)
  have hw2 : IntKind.i64.wrap q = q := IntWalk.i64_in _ (by omega)
  have hw3 : IntKind.i64.wrap (1 + q) = 1 + q := IntWalk.i64_in _ (by omega)
  have K5 := Blk.new w3 4 (fun _ => 0) 90
  have K5' := K5.row 4 (stepF d c (1 + q))
  have hlt3 := K4.lt
  have hs : S5 w B (m + 4 + 6 + 2) w3.heap.size f (stepF d c (1 + q)) ((w3.alloc (.cells (mk 4 fun _ => 0) 90)).setRow w3.heap.size (mk 4 (stepF d c (1 + q)))) :=
    ⟨(HD.out.alloc _).row (by omega) _, (K3.alloc _).rowOther _ _ (by omega), (K4.alloc _).rowOther _ _ (by omega), K5', by omega⟩
  have K3 := hs.2.1
  have HS := Lib.hid hs
  clear hs HD K4 K5' hlt3 hk
  go_wp2_with (first | ((with_reducible show wpList _ _ _ (Oper.mk _ (Op.build _ _) _ _ _ _ :: _) _ _); refine wpl_stepT _ _ _ rfl rfl rfl rfl rfl ?_) | ((with_reducible show wpList _ _ _ (Oper.mk _ (Op.store 90 _ _) _ _ _ _ :: _) _ _); refine storeT (K5) rfl rfl rfl rfl ?_) | ((with_reducible show wpList _ _ _ (Oper.mk _ (Op.load 28 _) _ _ _ _ :: _) _ _); refine loadB (K3) rfl rfl rfl ?_))
  clear K3 K5 hq hw1 hw2 hw3 hq0 hq1
  generalize stepF d c (1 + q) = G at *
  generalize (w3.alloc (.cells (mk 4 fun _ => 0) 90)).setRow w3.heap.size (mk 4 G) = w4 at *
  generalize w3.heap.size = b5 at *
  generalize hM : m + 4 + 6 + 2 = M at *
  by_cases hV : Vd f
  · refine (l2Board_yes _ _ hV).mono ?_
    rintro e w5 ⟨rfl, hb⟩
    have HS := Lib.hid (HS.out.below hb)
    clear hb
    go_wp2_with fail
    refine (one_any _ B _ 8 HS.out.1.1 (by omega) (by omega) (by omega)).mono ?_
    rintro e w6 ⟨o, rfl, hc2, ht2⟩
    have HS := Lib.hid (HS.out.call hc2 ht2)
    clear hc2 ht2
    cases o with
    | true =>
      go_wp2_with fail
      refine (one_any _ B _ 40 HS.out.1.1 (by omega) (by omega) (by omega)).mono ?_
      rintro e wt ⟨c, rfl, hc2, ht2⟩
      have HS := Lib.hid (HS.out.call hc2 ht2)
      clear hc2 ht2
      cases c with
      | true =>
        have hB := HS.out.1.1.lt
        go_wp2_with fail
        refine (among_any _ B _ wt.heap.size 3 3 (fun _ => True) (HS.out.1.1.alloc _) (by omega) (by omega) (by omega) (by omega) (three_new _ _ _ _ _)).mono ?_
        rintro e wu ⟨x, _, rfl, hc2, ht2⟩
        have HS := Lib.hid ((HS.out.alloc _).call hc2 ht2)
        clear hc2 ht2 hB
        have c3 := HS.out.2.2.2.1.cell (i := 3) (by omega)
        have f3 := HS.out.2.2.2.1.free 3
        have K4 := (HS.out.set (i := 3) (by omega) x).2.2.1
        have K5 := (HS.out.set (i := 3) (by omega) x).2.2.2.1
        go_wp2_with (first | ((with_reducible show wpList _ _ _ (Oper.mk _ (Op.load 90 _) _ _ _ _ :: _) _ _); refine loadT (K5) rfl rfl rfl ?_) | ((with_reducible show wpList _ _ _ (Oper.mk _ (Op.store 90 _ _) _ _ _ _ :: _) _ _); refine storeT (K4) rfl rfl rfl rfl ?_))
        try simp only [Exit.inBlock, Exit.then]
        exact retcT (K4.row 4 _) rfl rfl rfl ⟨_, rfl, ((HS.out.set (i := 3) (by omega) x).back (by omega)).1, ((HS.out.set (i := 3) (by omega) x).back (Nat.le_refl _)).2⟩
      | false =>
        have K4 := HS.out.2.2.1
        have K5 := HS.out.2.2.2.1
        go_wp2_with (first | ((with_reducible show wpList _ _ _ (Oper.mk _ (Op.load 90 _) _ _ _ _ :: _) _ _); refine loadT (K5) rfl rfl rfl ?_) | ((with_reducible show wpList _ _ _ (Oper.mk _ (Op.store 90 _ _) _ _ _ _ :: _) _ _); refine storeT (K4) rfl rfl rfl rfl ?_))
        try simp only [Exit.inBlock, Exit.then]
        exact retcT (K4.row 4 _) rfl rfl rfl ⟨_, rfl, (HS.out.back (by omega)).1, (HS.out.back (Nat.le_refl _)).2⟩
    | false =>
      have K3 := HS.out.2.1
      go_wp2_with ((with_reducible show wpList _ _ _ (Oper.mk _ (Op.load 28 _) _ _ _ _ :: _) _ _); refine loadB (K3) rfl rfl rfl ?_)
      clear K3
      have hBw : B < w6.heap.size := by have := HS.out.1.2.2; have := HS.out.1.2.1.size; omega
      refine (l5All_any f _ hV).mono ?_
      rintro e w7 ⟨ga, ca, rfl, ho, hb⟩
      have HS := Lib.hid (HS.out.below hb)
      obtain ⟨_, _, e1, _, hc⟩ := KRow.of_list (all_all f (Nat.le_refl 4)) ho
      cases e1
      have CM : CAt w7 ga ((allL f 4).length * 4) (flatF (allL f 4)) := hc
      have hle := all_le f 4
      have hga := (ho.lt ga rfl).1
      clear hb ho hc hV
      generalize (allL f 4).length = n at *
      generalize flatF (allL f 4) = h at *
      by_cases hn : n = 0
      · subst hn
        have hn0 : ¬ ((0 : Nat) : Int) > 0 := by omega
        have hn1 : ¬ (0 : Int) < ((0 : Nat) : Int) := by omega
        go_wp2_with fail
        refine (one_any _ B _ 40 HS.out.1.1 (by omega) (by omega) (by omega)).mono ?_
        rintro e wt ⟨c, rfl, hc2, ht2⟩
        have HS := Lib.hid (HS.out.call hc2 ht2)
        clear hc2 ht2
        cases c with
        | true =>
          have hB := HS.out.1.1.lt
          go_wp2_with fail
          refine (among_any _ B _ wt.heap.size 3 3 (fun _ => True) (HS.out.1.1.alloc _) (by omega) (by omega) (by omega) (by omega) (three_new _ _ _ _ _)).mono ?_
          rintro e wu ⟨x, _, rfl, hc2, ht2⟩
          have HS := Lib.hid ((HS.out.alloc _).call hc2 ht2)
          clear hc2 ht2 hB
          have c3 := HS.out.2.2.2.1.cell (i := 3) (by omega)
          have f3 := HS.out.2.2.2.1.free 3
          have K4 := (HS.out.set (i := 3) (by omega) x).2.2.1
          have K5 := (HS.out.set (i := 3) (by omega) x).2.2.2.1
          go_wp2_with (first | ((with_reducible show wpList _ _ _ (Oper.mk _ (Op.load 90 _) _ _ _ _ :: _) _ _); refine loadT (K5) rfl rfl rfl ?_) | ((with_reducible show wpList _ _ _ (Oper.mk _ (Op.store 90 _ _) _ _ _ _ :: _) _ _); refine storeT (K4) rfl rfl rfl rfl ?_))
          try simp only [Exit.inBlock, Exit.then]
          exact retcT (K4.row 4 _) rfl rfl rfl ⟨_, rfl, ((HS.out.set (i := 3) (by omega) x).back (by omega)).1, ((HS.out.set (i := 3) (by omega) x).back (Nat.le_refl _)).2⟩
        | false =>
          have K4 := HS.out.2.2.1
          have K5 := HS.out.2.2.2.1
          go_wp2_with (first | ((with_reducible show wpList _ _ _ (Oper.mk _ (Op.load 90 _) _ _ _ _ :: _) _ _); refine loadT (K5) rfl rfl rfl ?_) | ((with_reducible show wpList _ _ _ (Oper.mk _ (Op.store 90 _ _) _ _ _ _ :: _) _ _); refine storeT (K4) rfl rfl rfl rfl ?_))
          try simp only [Exit.inBlock, Exit.then]
          exact retcT (K4.row 4 _) rfl rfl rfl ⟨_, rfl, (HS.out.back (by omega)).1, (HS.out.back (Nat.le_refl _)).2⟩
      · have hn0 : (0 : Int) < (n : Int) := by omega
        have hn1 : 0 < n := by omega
        go_wp2_with fail
        refine (pick_any _ B _ (n : Int) HS.out.1.1 (by omega) (by omega) (by omega)).mono ?_
        rintro e w8 ⟨k, hk, rfl, hc2, ht2⟩
        have hk0 : k < n := by omega
        have CM : CAt w8 ga (n * 4) h := ⟨by have := ht2.size; have := CM.1; omega, fun j hj => ht2.cell (CM.2 j hj) (by dsimp only; omega)⟩
        have HS := Lib.hid (HS.out.call hc2 ht2)
        clear hc2 ht2
        have K5 := HS.out.2.2.2.1
        have HS2 := Lib.hid (HS.out.put (fun j => h (k * 4 + j)))
        have hkk : k * 4 + 4 ≤ n * 4 := by omega
        go_wp2_with (first | (with_reducible show wpList _ _ _ (Oper.mk _ (Op.load 90 _) _ _ _ _ :: _) _ _); refine loadAT CM (by omega) rfl rfl rfl ?_ | ((with_reducible show wpList _ _ _ (Oper.mk _ (Op.store 90 _ _) _ _ _ _ :: _) _ _); refine storeT (K5) rfl rfl rfl rfl ?_))
        clear HS K5 CM
        generalize w8.setRow b5 (mk 4 fun j => h (k * 4 + j)) = w9 at *
        generalize (fun j => h (k * 4 + j)) = G2 at *
        have HS := HS2
        clear HS2
        refine (one_any _ B _ 40 HS.out.1.1 (by omega) (by omega) (by omega)).mono ?_
        rintro e wt ⟨c, rfl, hc2, ht2⟩
        have HS := Lib.hid (HS.out.call hc2 ht2)
        clear hc2 ht2
        cases c with
        | true =>
          have hB := HS.out.1.1.lt
          go_wp2_with fail
          refine (among_any _ B _ wt.heap.size 3 3 (fun _ => True) (HS.out.1.1.alloc _) (by omega) (by omega) (by omega) (by omega) (three_new _ _ _ _ _)).mono ?_
          rintro e wu ⟨x, _, rfl, hc2, ht2⟩
          have HS := Lib.hid ((HS.out.alloc _).call hc2 ht2)
          clear hc2 ht2 hB
          have c3 := HS.out.2.2.2.1.cell (i := 3) (by omega)
          have f3 := HS.out.2.2.2.1.free 3
          have K4 := (HS.out.set (i := 3) (by omega) x).2.2.1
          have K5 := (HS.out.set (i := 3) (by omega) x).2.2.2.1
          go_wp2_with (first | ((with_reducible show wpList _ _ _ (Oper.mk _ (Op.load 90 _) _ _ _ _ :: _) _ _); refine loadT (K5) rfl rfl rfl ?_) | ((with_reducible show wpList _ _ _ (Oper.mk _ (Op.store 90 _ _) _ _ _ _ :: _) _ _); refine storeT (K4) rfl rfl rfl rfl ?_))
          try simp only [Exit.inBlock, Exit.then]
          exact retcT (K4.row 4 _) rfl rfl rfl ⟨_, rfl, ((HS.out.set (i := 3) (by omega) x).back (by omega)).1, ((HS.out.set (i := 3) (by omega) x).back (Nat.le_refl _)).2⟩
        | false =>
          have K4 := HS.out.2.2.1
          have K5 := HS.out.2.2.2.1
          go_wp2_with (first | ((with_reducible show wpList _ _ _ (Oper.mk _ (Op.load 90 _) _ _ _ _ :: _) _ _); refine loadT (K5) rfl rfl rfl ?_) | ((with_reducible show wpList _ _ _ (Oper.mk _ (Op.store 90 _ _) _ _ _ _ :: _) _ _); refine storeT (K4) rfl rfl rfl rfl ?_))
          try simp only [Exit.inBlock, Exit.then]
          exact retcT (K4.row 4 _) rfl rfl rfl ⟨_, rfl, (HS.out.back (by omega)).1, (HS.out.back (Nat.le_refl _)).2⟩
  · refine (l2Board_no _ _ hV).mono ?_
    rintro e w5 ⟨rfl, hb⟩
    have HS := Lib.hid (HS.out.below hb)
    clear hb hV
    go_wp2_with fail
    refine (one_any _ B _ 40 HS.out.1.1 (by omega) (by omega) (by omega)).mono ?_
    rintro e wt ⟨c, rfl, hc2, ht2⟩
    have HS := Lib.hid (HS.out.call hc2 ht2)
    clear hc2 ht2
    cases c with
    | true =>
      have hB := HS.out.1.1.lt
      go_wp2_with fail
      refine (among_any _ B _ wt.heap.size 3 3 (fun _ => True) (HS.out.1.1.alloc _) (by omega) (by omega) (by omega) (by omega) (three_new _ _ _ _ _)).mono ?_
      rintro e wu ⟨x, _, rfl, hc2, ht2⟩
      have HS := Lib.hid ((HS.out.alloc _).call hc2 ht2)
      clear hc2 ht2 hB
      have c3 := HS.out.2.2.2.1.cell (i := 3) (by omega)
      have f3 := HS.out.2.2.2.1.free 3
      have K4 := (HS.out.set (i := 3) (by omega) x).2.2.1
      have K5 := (HS.out.set (i := 3) (by omega) x).2.2.2.1
      go_wp2_with (first | ((with_reducible show wpList _ _ _ (Oper.mk _ (Op.load 90 _) _ _ _ _ :: _) _ _); refine loadT (K5) rfl rfl rfl ?_) | ((with_reducible show wpList _ _ _ (Oper.mk _ (Op.store 90 _ _) _ _ _ _ :: _) _ _); refine storeT (K4) rfl rfl rfl rfl ?_))
      try simp only [Exit.inBlock, Exit.then]
      exact retcT (K4.row 4 _) rfl rfl rfl ⟨_, rfl, ((HS.out.set (i := 3) (by omega) x).back (by omega)).1, ((HS.out.set (i := 3) (by omega) x).back (Nat.le_refl _)).2⟩
    | false =>
      have K4 := HS.out.2.2.1
      have K5 := HS.out.2.2.2.1
      go_wp2_with (first | ((with_reducible show wpList _ _ _ (Oper.mk _ (Op.load 90 _) _ _ _ _ :: _) _ _); refine loadT (K5) rfl rfl rfl ?_) | ((with_reducible show wpList _ _ _ (Oper.mk _ (Op.store 90 _ _) _ _ _ _ :: _) _ _); refine storeT (K4) rfl rfl rfl rfl ?_))
      try simp only [Exit.inBlock, Exit.then]
      exact retcT (K4.row 4 _) rfl rfl rfl ⟨_, rfl, (HS.out.back (by omega)).1, (HS.out.back (Nat.le_refl _)).2⟩
end Go.Proofs.Ytmcmpedmgibmkaa
