/-
  The contracts of PlaceTile, in the reference and in the program, for every board and every three numbers.
-/
import Derived.Test.YtlboglcpbbnbcabTripKit
import Derived.Test.YtlboglcpbbnbcabSpecPut
import Derived.Test.YtlboglcpbbnbcabImplPut
namespace Go.Proofs.Ytlboglcpbbnbcab
open Go.RowKit Plain
attribute [local go_sem] store_new
set_option linter.unusedVariables false
set_option linter.unusedSimpArgs false
namespace Plain
/-- What PlaceTile returns. -/
def ptB (f p : Nat → Int) : Nat → Int := if p 2 ≤ 2 then putB f p (p 2) else fun _ => 0
def ptO (f p : Nat → Int) : Bool := if p 2 ≤ 2 then putO f p (p 2) else false
theorem pt_yes {f p : Nat → Int} (h : p 2 ≤ 2) : ptB f p = putB f p (p 2) ∧ ptO f p = putO f p (p 2) := by simp [ptB, ptO, h]
theorem pt_no {f p : Nat → Int} (h : ¬ p 2 ≤ 2) : ptB f p = (fun _ => 0) ∧ ptO f p = false := by simp [ptB, ptO, h]
theorem pt_ok {f p : Nat → Int} (h : PutOk f p (p 2)) (h2 : p 2 ≤ 2) : ptB f p = upd f (placeAt p) (p 2) ∧ ptO f p = true := by
  obtain ⟨a, b⟩ := pt_yes (f := f) h2
  obtain ⟨c, d⟩ := put_yes h
  exact ⟨a.trans d, b.trans c⟩
theorem pt_not {f p : Nat → Int} (h : ¬ (PutOk f p (p 2) ∧ p 2 ≤ 2)) : ptB f p = (fun _ => 0) ∧ ptO f p = false := by
  by_cases h2 : p 2 ≤ 2
  · obtain ⟨a, b⟩ := pt_yes (f := f) h2
    obtain ⟨c, d⟩ := put_no (fun q => h ⟨q, h2⟩)
    exact ⟨a.trans d, b.trans c⟩
  · exact pt_no h2
end Plain
theorem loadgA {ops : Array Oper} {rest : List Oper} {o : Oper} {a : Act} {w : World} {Q : Exit → Act → World → Prop} {x : Operand} {b : Nat} {f : Nat → Int} {t : TypeId}
    (hg : Blk w b 3 f t) (hw : Region.wanted o (yielded ops a.tmps) = true) (ho : o.op = .load 70 x) (hx : a.eval x = .pointer (some ⟨b, 0, none⟩))
    (h : wpList Try.prog ops Q rest (a.put o.dst (.agg (mk 3 f))) w) : wpList Try.prog ops Q (o :: rest) a w :=
  wpList_load_guarded hw _ x ho b 3 f t _ hx hg Try.underlying70 rfl sizeA h
theorem mk_pair (p : Nat → Int) : mk 2 (two (p 0) (p 1)) = mk 2 p := rfl
theorem newTile_yes (x : Int) (w : World) (h0 : 1 ≤ x) (h1 : x ≤ 2) : Calls Try.prog 119 #[.int .i64 x] w fun e w' => e = .returned (.bool true) ∧ w = w' := by
  go_enter Try.func119, Try.ntmps119
  go_wp2
  go_ret
  exact ⟨rfl, rfl⟩
theorem newTile_no (x : Int) (w : World) (h : x < 1 ∨ 2 < x) : Calls Try.prog 119 #[.int .i64 x] w fun e w' => e = .returned (.bool false) ∧ w = w' := by
  by_cases h0 : 1 ≤ x
  · have h1 : ¬ x ≤ 2 := by omega
    go_enter Try.func119, Try.ntmps119
    go_wp2
    go_ret
    exact ⟨rfl, rfl⟩
  · go_enter Try.func119, Try.ntmps119
    go_wp2
    go_ret
    exact ⟨rfl, rfl⟩
set_option maxHeartbeats 1000000 in
set_option maxRecDepth 20000 in
theorem implPt_any (f p : Nat → Int) (w : World) :
    Calls Try.prog 60 #[.agg (mk 16 f), .agg (mk 3 p)] w fun e w' => e = .returned (.tuple #[.agg (mk 16 (ptB f p)), .bool (ptO f p)]) ∧ Below w.heap.size w w' := by
  have z16 := zero16
  have K1 := ((Blk.new w 16 f 29).alloc (.cells (mk 3 p) 70)).alloc (.cells (mk 16 fun _ => 0) 29)
  have K2 := (Blk.new (w.alloc (.cells (mk 16 f) 29)) 3 p 70).alloc (.cells (mk 16 fun _ => 0) 29)
  have K3 := Blk.new ((w.alloc (.cells (mk 16 f) 29)).alloc (.cells (mk 3 p) 70)) 16 (fun _ => 0) 29
  have HB := Lib.hid ((((Below.refl w.heap.size w).alloc (Nat.le_refl _) (.cells (mk 16 f) 29)).alloc (by simp) (.cells (mk 3 p) 70)).alloc (by simp; omega) (.cells (mk 16 fun _ => 0) 29))
  simp only [World.size_alloc] at K2 K3
  have e0 := K2.cell (i := 0) (by omega)
  have e1 := K2.cell (i := 1) (by omega)
  have e2 := K2.cell (i := 2) (by omega)
  by_cases ht : 1 ≤ p 2 ∧ p 2 ≤ 2
  · obtain ⟨y1, y2⟩ := pt_yes (f := f) ht.2
    rw [y1, y2]
    clear y1 y2
    have HP := Lib.hid (fun W => implPut_any f (two (p 0) (p 1)) (p 2) W)
    have hE : putB f (two (p 0) (p 1)) (p 2) = putB f p (p 2) ∧ putO f (two (p 0) (p 1)) (p 2) = putO f p (p 2) := ⟨rfl, rfl⟩
    obtain ⟨t1, t2⟩ := ht
    have HT := Lib.hid (newTile_yes (p 2) ((((w.alloc (.cells (mk 16 f) 29)).alloc (.cells (mk 3 p) 70)).alloc (.cells (mk 16 fun _ => 0) 29))) t1 t2)
    clear t1 t2
    generalize p 2 = t at *
    generalize p 0 = x at *
    generalize p 1 = y at *
    go_enter Try.func60, Try.ntmps60
    go_wp2_with fail
    refine HT.out.mono ?_
    rintro e w' ⟨rfl, rfl⟩
    go_wp2_with ((with_reducible show wpList _ _ _ (Oper.mk _ (Op.load 29 _) _ _ _ _ :: _) _ _); refine loadB (K1) rfl rfl rfl ?_)
    refine (HP.out _).mono ?_
    rw [hE.1, hE.2]
    rintro e w2 ⟨rfl, hb2⟩
    have K1 := K1.below hb2 K1.lt
    have K2 := K2.below hb2 K2.lt
    have K3 := K3.below hb2 K3.lt
    have HB : Hid (Below w.heap.size w w2) := HB.out.trans (hb2.mono HB.out.size)
    clear hb2
    go_wp2_with ((with_reducible show wpList _ _ _ (Oper.mk _ (Op.store 29 _ _) _ _ _ _ :: _) _ _); refine storeB (K3) rfl rfl rfl rfl ?_)
    try simp only [Exit.inBlock, Exit.then]
    exact retctB (K3.row 16 _) rfl rfl rfl ⟨rfl, below_setRow HB.out (by omega) _⟩
  · obtain ⟨y1, y2⟩ := pt_not (f := f) (p := p) (fun q => ht ⟨q.1.2.2.1.1, q.2⟩)
    rw [y1, y2]
    clear y1 y2
    have HT := Lib.hid (newTile_no (p 2) ((((w.alloc (.cells (mk 16 f) 29)).alloc (.cells (mk 3 p) 70)).alloc (.cells (mk 16 fun _ => 0) 29))) (by omega))
    clear ht
    generalize p 2 = t at *
    go_enter Try.func60, Try.ntmps60
    go_wp2_with fail
    refine HT.out.mono ?_
    rintro e w' ⟨rfl, rfl⟩
    go_wp2_with ((with_reducible show wpList _ _ _ (Oper.mk _ (Op.store 29 _ _) _ _ _ _ :: _) _ _); refine storeB (K3) rfl rfl rfl rfl ?_)
    try simp only [Exit.inBlock, Exit.then]
    exact retctB (K3.row 16 _) rfl rfl rfl ⟨rfl, below_setRow HB.out (by omega) _⟩
theorem storeNew2 {w : World} {ops : Array Oper} {rest : List Oper} {o : Oper} {a : Act} {Q : Exit → Act → World → Prop} {x y : Operand} {b : Nat} (g : Nat → Int) (hb : b = w.heap.size) (hgd : o.guard = none) (ho : o.op = .store 61 x y)
    (hx : a.eval x = .pointer (some ⟨b, 0, none⟩)) (hy : a.eval y = .agg (mk 2 g)) (h : wpList Try.prog ops Q rest (a.put o.dst undef) (w.alloc (.cells (mk 2 g) 61))) :
    wpList Try.prog ops Q (o :: rest) a (w.alloc (.cells (mk 2 fun _ => 0) 61)) := by
  subst hb
  refine storeC (Blk.new w 2 (fun _ => 0) 61) hgd ho hx hy ?_
  rw [World.setRow_alloc_new]
  exact h
/-- A placement can be made on a valid board. -/
def Can3 (f p : Nat → Int) : Prop := CellIn p ∧ (1 ≤ p 2 ∧ p 2 ≤ 2) ∧ f (placeAt p) = 0
instance (f p : Nat → Int) : Decidable (Can3 f p) := by unfold Can3; infer_instance
set_option maxHeartbeats 1000000 in
set_option maxRecDepth 20000 in
theorem l8Can_any (f p : Nat → Int) (w : World) :
    Calls Try.prog 130 #[.agg (mk 16 f), .agg (mk 3 p)] w fun e w' => e = .returned (.bool (decide (Can3 f p))) ∧ Below w.heap.size w w' := by
  have K1 := ((Blk.new w 16 f 29).alloc (.cells (mk 3 p) 70)).alloc (.cells (mk 2 p) 61)
  have K2 := (Blk.new (w.alloc (.cells (mk 16 f) 29)) 3 p 70).alloc (.cells (mk 2 p) 61)
  have K2o := Blk.new (w.alloc (.cells (mk 16 f) 29)) 3 p 70
  have K3 := Blk.new ((w.alloc (.cells (mk 16 f) 29)).alloc (.cells (mk 3 p) 70)) 2 p 61
  have HB := Lib.hid ((((Below.refl w.heap.size w).alloc (Nat.le_refl _) (.cells (mk 16 f) 29)).alloc (by simp) (.cells (mk 3 p) 70)).alloc (by simp; omega) (.cells (mk 2 p) 61))
  simp only [World.size_alloc] at K2 K3 K2o
  have e0 := K2o.cell (i := 0) (by omega)
  have e1 := K2o.cell (i := 1) (by omega)
  have mp : ∀ x y, x = p 0 → y = p 1 → (#[.int .i64 x, .int .i64 y] : Array Value) = mk 2 p := fun x y h k => by rw [h, k]; rfl
  have z2 := zero2
  by_cases hC : CellIn p
  · obtain ⟨r, c, hr, hc, c0, c1, ep⟩ := cell_nat hC
    have HC := Lib.hid hC
    have E0 := Lib.hid c0
    have E1 := Lib.hid c1
    have EP := Lib.hid ep
    clear c0 c1 ep hC
    by_cases ht : 1 ≤ p 2 ∧ p 2 ≤ 2
    · have HT := Lib.hid ht
      by_cases hz : f (r * 4 + c) = 0
      · rw [decide_eq_true (show Can3 f p from ⟨HC.out, ht, by rw [EP.out]; exact hz⟩)]
        have HZ := Lib.hid hz
        clear hz ht
        go_enter Try.func130, Try.ntmps130
        go_wp2_with (first | ((with_reducible show wpList _ _ _ (Oper.mk _ (Op.store 61 _ _) _ _ _ _ :: _) _ _); refine storeNew2 p (by simp) rfl rfl rfl rfl ?_) | ((with_reducible show wpList _ _ _ (Oper.mk _ (Op.load 61 _) _ _ _ _ :: _) _ _); refine loadC (K3) rfl rfl rfl ?_))
        refine (l2Cell_yes p _ HC.out).mono ?_
        rintro e w1 ⟨rfl, hb2⟩
        have K1 := K1.below hb2 K1.lt
        have K2 := K2.below hb2 K2.lt
        have K3 := K3.below hb2 K3.lt
        have HB : Hid (Below w.heap.size w w1) := HB.out.trans (hb2.mono HB.out.size)
        clear hb2
        have e2 := K2.cell (i := 2) (by omega)
        go_wp2_with fail
        refine (l1In_yes (p 2) 1 2 _ HT.out.1 HT.out.2).mono ?_
        rintro e w' ⟨rfl, rfl⟩
        go_wp2_with (first | ((with_reducible show wpList _ _ _ (Oper.mk _ (Op.load 29 _) _ _ _ (some _) :: _) _ _); refine loadgB (K1) rfl rfl rfl ?_) | ((with_reducible show wpList _ _ _ (Oper.mk _ (Op.load 61 _) _ _ _ (some _) :: _) _ _); refine loadgC (K3) rfl rfl rfl ?_))
        refine (l2At_any _ _ r c _ E0.out E1.out hr hc).mono ?_
        rw [HZ.out]
        rintro e w3 ⟨rfl, hb2⟩
        have K1 := K1.below hb2 K1.lt
        have K2 := K2.below hb2 K2.lt
        have K3 := K3.below hb2 K3.lt
        have HB : Hid (Below w.heap.size w w3) := HB.out.trans (hb2.mono HB.out.size)
        clear hb2
        go_wp2_with fail
        go_ret
        exact ⟨rfl, HB.out⟩
      · rw [decide_eq_false (show ¬ Can3 f p from fun q => hz (by rw [← EP.out]; exact q.2.2))]
        have d0 : (f (r * 4 + c) == 0) = false := by simpa using hz
        clear hz ht
        go_enter Try.func130, Try.ntmps130
        go_wp2_with (first | ((with_reducible show wpList _ _ _ (Oper.mk _ (Op.store 61 _ _) _ _ _ _ :: _) _ _); refine storeNew2 p (by simp) rfl rfl rfl rfl ?_) | ((with_reducible show wpList _ _ _ (Oper.mk _ (Op.load 61 _) _ _ _ _ :: _) _ _); refine loadC (K3) rfl rfl rfl ?_))
        refine (l2Cell_yes p _ HC.out).mono ?_
        rintro e w1 ⟨rfl, hb2⟩
        have K1 := K1.below hb2 K1.lt
        have K2 := K2.below hb2 K2.lt
        have K3 := K3.below hb2 K3.lt
        have HB : Hid (Below w.heap.size w w1) := HB.out.trans (hb2.mono HB.out.size)
        clear hb2
        have e2 := K2.cell (i := 2) (by omega)
        go_wp2_with fail
        refine (l1In_yes (p 2) 1 2 _ HT.out.1 HT.out.2).mono ?_
        rintro e w' ⟨rfl, rfl⟩
        go_wp2_with (first | ((with_reducible show wpList _ _ _ (Oper.mk _ (Op.load 29 _) _ _ _ (some _) :: _) _ _); refine loadgB (K1) rfl rfl rfl ?_) | ((with_reducible show wpList _ _ _ (Oper.mk _ (Op.load 61 _) _ _ _ (some _) :: _) _ _); refine loadgC (K3) rfl rfl rfl ?_))
        refine (l2At_any _ _ r c _ E0.out E1.out hr hc).mono ?_
        rintro e w3 ⟨rfl, hb2⟩
        have K1 := K1.below hb2 K1.lt
        have K2 := K2.below hb2 K2.lt
        have K3 := K3.below hb2 K3.lt
        have HB : Hid (Below w.heap.size w w3) := HB.out.trans (hb2.mono HB.out.size)
        clear hb2
        go_wp2_with fail
        go_ret
        exact ⟨rfl, HB.out⟩
    · rw [decide_eq_false (show ¬ Can3 f p from fun q => ht q.2.1)]
      have HT := Lib.hid (show p 2 < 1 ∨ 2 < p 2 by omega)
      clear ht
      go_enter Try.func130, Try.ntmps130
      go_wp2_with (first | ((with_reducible show wpList _ _ _ (Oper.mk _ (Op.store 61 _ _) _ _ _ _ :: _) _ _); refine storeNew2 p (by simp) rfl rfl rfl rfl ?_) | ((with_reducible show wpList _ _ _ (Oper.mk _ (Op.load 61 _) _ _ _ _ :: _) _ _); refine loadC (K3) rfl rfl rfl ?_))
      refine (l2Cell_yes p _ HC.out).mono ?_
      rintro e w1 ⟨rfl, hb2⟩
      have K1 := K1.below hb2 K1.lt
      have K2 := K2.below hb2 K2.lt
      have K3 := K3.below hb2 K3.lt
      have HB : Hid (Below w.heap.size w w1) := HB.out.trans (hb2.mono HB.out.size)
      clear hb2
      have e2 := K2.cell (i := 2) (by omega)
      go_wp2_with fail
      refine (l1In_no (p 2) 1 2 _ HT.out).mono ?_
      rintro e w' ⟨rfl, rfl⟩
      go_wp2_with fail
      go_ret
      exact ⟨rfl, HB.out⟩
  · rw [decide_eq_false (show ¬ Can3 f p from fun q => hC q.1)]
    have HC := Lib.hid hC
    clear hC
    go_enter Try.func130, Try.ntmps130
    go_wp2_with (first | ((with_reducible show wpList _ _ _ (Oper.mk _ (Op.store 61 _ _) _ _ _ _ :: _) _ _); refine storeNew2 p (by simp) rfl rfl rfl rfl ?_) | ((with_reducible show wpList _ _ _ (Oper.mk _ (Op.load 61 _) _ _ _ _ :: _) _ _); refine loadC (K3) rfl rfl rfl ?_))
    refine (l2Cell_no p _ HC.out).mono ?_
    rintro e w1 ⟨rfl, hb2⟩
    have K1 := K1.below hb2 K1.lt
    have K2 := K2.below hb2 K2.lt
    have K3 := K3.below hb2 K3.lt
    have HB : Hid (Below w.heap.size w w1) := HB.out.trans (hb2.mono HB.out.size)
    clear hb2
    go_wp2_with fail
    go_ret
    exact ⟨rfl, HB.out⟩
set_option maxHeartbeats 1000000 in
set_option maxRecDepth 20000 in
theorem l8Put_any (f p : Nat → Int) (w : World) (hC : CellIn p) :
    Calls Try.prog 118 #[.agg (mk 16 f), .agg (mk 3 p)] w fun e w' => e = .returned (.agg (mk 16 (upd f (placeAt p) (p 2)))) ∧ Below w.heap.size w w' := by
  have z16 := zero16
  have K1 := ((Blk.new w 16 f 29).alloc (.cells (mk 3 p) 70)).alloc (.cells (mk 16 fun _ => 0) 29)
  have K2 := (Blk.new (w.alloc (.cells (mk 16 f) 29)) 3 p 70).alloc (.cells (mk 16 fun _ => 0) 29)
  have K3 := Blk.new ((w.alloc (.cells (mk 16 f) 29)).alloc (.cells (mk 3 p) 70)) 16 (fun _ => 0) 29
  have HB := Lib.hid ((((Below.refl w.heap.size w).alloc (Nat.le_refl _) (.cells (mk 16 f) 29)).alloc (by simp) (.cells (mk 3 p) 70)).alloc (by simp; omega) (.cells (mk 16 fun _ => 0) 29))
  simp only [World.size_alloc] at K2 K3
  have e0 := K2.cell (i := 0) (by omega)
  have e1 := K2.cell (i := 1) (by omega)
  have e2 := K2.cell (i := 2) (by omega)
  obtain ⟨r, c, hr, hc, c0, c1, ep⟩ := cell_nat hC
  have HP := Lib.hid (fun W => l2Put_any f (two (p 0) (p 1)) r c (p 2) W c0 c1 hr hc)
  rw [ep]
  generalize p 2 = t at *
  generalize p 0 = x at *
  generalize p 1 = y at *
  clear hC c0 c1 ep
  go_enter Try.func118, Try.ntmps118
  go_wp2_with ((with_reducible show wpList _ _ _ (Oper.mk _ (Op.load 29 _) _ _ _ _ :: _) _ _); refine loadB (K1) rfl rfl rfl ?_)
  refine (HP.out _).mono ?_
  rintro e w2 ⟨rfl, hb2⟩
  have K1 := K1.below hb2 K1.lt
  have K2 := K2.below hb2 K2.lt
  have K3 := K3.below hb2 K3.lt
  have HB : Hid (Below w.heap.size w w2) := HB.out.trans (hb2.mono HB.out.size)
  clear hb2
  go_wp2_with ((with_reducible show wpList _ _ _ (Oper.mk _ (Op.store 29 _ _) _ _ _ _ :: _) _ _); refine storeB (K3) rfl rfl rfl rfl ?_)
  try simp only [Exit.inBlock, Exit.then]
  exact retcB (K3.row 16 _) rfl rfl rfl ⟨rfl, below_setRow HB.out (by omega) _⟩
set_option maxHeartbeats 1000000 in
set_option maxRecDepth 20000 in
theorem specPt_any (f p : Nat → Int) (w : World) :
    Calls Try.prog 77 #[.agg (mk 16 f), .agg (mk 3 p)] w fun e w' => e = .returned (.tuple #[.agg (mk 16 (ptB f p)), .bool (ptO f p)]) ∧ Below w.heap.size w w' := by
  have z16 := zero16
  have K1 := ((Blk.new w 16 f 29).alloc (.cells (mk 3 p) 70)).alloc (.cells (mk 16 fun _ => 0) 29)
  have K2 := (Blk.new (w.alloc (.cells (mk 16 f) 29)) 3 p 70).alloc (.cells (mk 16 fun _ => 0) 29)
  have K3 := Blk.new ((w.alloc (.cells (mk 16 f) 29)).alloc (.cells (mk 3 p) 70)) 16 (fun _ => 0) 29
  have HB := Lib.hid ((((Below.refl w.heap.size w).alloc (Nat.le_refl _) (.cells (mk 16 f) 29)).alloc (by simp) (.cells (mk 3 p) 70)).alloc (by simp; omega) (.cells (mk 16 fun _ => 0) 29))
  simp only [World.size_alloc] at K2 K3
  by_cases hV : Vd f
  · have HV := Lib.hid hV
    by_cases hC : Can3 f p
    · obtain ⟨y1, y2⟩ := pt_ok (f := f) (p := p) ⟨hV, hC.1, ⟨hC.2.1.1, by have := hC.2.1.2; omega⟩, hC.2.2⟩ hC.2.1.2
      rw [y1, y2]
      have HC := Lib.hid (l8Can_any f p)
      rw [decide_eq_true hC] at HC
      have HQ := Lib.hid hC.1
      clear y1 y2 hC hV
      go_enter Try.func77, Try.ntmps77
      go_wp2_with ((with_reducible show wpList _ _ _ (Oper.mk _ (Op.load 29 _) _ _ _ _ :: _) _ _); refine loadB (K1) rfl rfl rfl ?_)
      refine (l2Board_yes _ _ HV.out).mono ?_
      rintro e w1 ⟨rfl, hb2⟩
      have K1 := K1.below hb2 K1.lt
      have K2 := K2.below hb2 K2.lt
      have K3 := K3.below hb2 K3.lt
      have HB : Hid (Below w.heap.size w w1) := HB.out.trans (hb2.mono HB.out.size)
      clear hb2
      go_wp2_with (first | ((with_reducible show wpList _ _ _ (Oper.mk _ (Op.load 29 _) _ _ _ (some _) :: _) _ _); refine loadgB (K1) rfl rfl rfl ?_) | ((with_reducible show wpList _ _ _ (Oper.mk _ (Op.load 70 _) _ _ _ (some _) :: _) _ _); refine loadgA (K2) rfl rfl rfl ?_))
      refine (HC.out _).mono ?_
      rintro e w2 ⟨rfl, hb2⟩
      have K1 := K1.below hb2 K1.lt
      have K2 := K2.below hb2 K2.lt
      have K3 := K3.below hb2 K3.lt
      have HB : Hid (Below w.heap.size w w2) := HB.out.trans (hb2.mono HB.out.size)
      clear hb2
      go_wp2_with (first | ((with_reducible show wpList _ _ _ (Oper.mk _ (Op.load 29 _) _ _ _ _ :: _) _ _); refine loadB (K1) rfl rfl rfl ?_) | ((with_reducible show wpList _ _ _ (Oper.mk _ (Op.load 70 _) _ _ _ _ :: _) _ _); refine loadA (K2) rfl rfl rfl ?_))
      refine (l8Put_any f p _ HQ.out).mono ?_
      rintro e w3 ⟨rfl, hb2⟩
      have K1 := K1.below hb2 K1.lt
      have K2 := K2.below hb2 K2.lt
      have K3 := K3.below hb2 K3.lt
      have HB : Hid (Below w.heap.size w w3) := HB.out.trans (hb2.mono HB.out.size)
      clear hb2
      go_wp2_with ((with_reducible show wpList _ _ _ (Oper.mk _ (Op.store 29 _ _) _ _ _ _ :: _) _ _); refine storeB (K3) rfl rfl rfl rfl ?_)
      try simp only [Exit.inBlock, Exit.then]
      exact retctB (K3.row 16 _) rfl rfl rfl ⟨rfl, below_setRow HB.out (by omega) _⟩
    · obtain ⟨y1, y2⟩ := pt_not (f := f) (p := p) (fun q => hC ⟨q.1.2.1, ⟨q.1.2.2.1.1, q.2⟩, q.1.2.2.2⟩)
      rw [y1, y2]
      have HC := Lib.hid (l8Can_any f p)
      rw [decide_eq_false hC] at HC
      clear y1 y2 hC hV
      go_enter Try.func77, Try.ntmps77
      go_wp2_with ((with_reducible show wpList _ _ _ (Oper.mk _ (Op.load 29 _) _ _ _ _ :: _) _ _); refine loadB (K1) rfl rfl rfl ?_)
      refine (l2Board_yes _ _ HV.out).mono ?_
      rintro e w1 ⟨rfl, hb2⟩
      have K1 := K1.below hb2 K1.lt
      have K2 := K2.below hb2 K2.lt
      have K3 := K3.below hb2 K3.lt
      have HB : Hid (Below w.heap.size w w1) := HB.out.trans (hb2.mono HB.out.size)
      clear hb2
      go_wp2_with (first | ((with_reducible show wpList _ _ _ (Oper.mk _ (Op.load 29 _) _ _ _ (some _) :: _) _ _); refine loadgB (K1) rfl rfl rfl ?_) | ((with_reducible show wpList _ _ _ (Oper.mk _ (Op.load 70 _) _ _ _ (some _) :: _) _ _); refine loadgA (K2) rfl rfl rfl ?_))
      refine (HC.out _).mono ?_
      rintro e w2 ⟨rfl, hb2⟩
      have K1 := K1.below hb2 K1.lt
      have K2 := K2.below hb2 K2.lt
      have K3 := K3.below hb2 K3.lt
      have HB : Hid (Below w.heap.size w w2) := HB.out.trans (hb2.mono HB.out.size)
      clear hb2
      go_wp2_with ((with_reducible show wpList _ _ _ (Oper.mk _ (Op.store 29 _ _) _ _ _ _ :: _) _ _); refine storeB (K3) rfl rfl rfl rfl ?_)
      try simp only [Exit.inBlock, Exit.then]
      exact retctB (K3.row 16 _) rfl rfl rfl ⟨rfl, below_setRow HB.out (by omega) _⟩
  · obtain ⟨y1, y2⟩ := pt_not (f := f) (p := p) (fun q => hV q.1.1)
    rw [y1, y2]
    clear y1 y2
    go_enter Try.func77, Try.ntmps77
    go_wp2_with ((with_reducible show wpList _ _ _ (Oper.mk _ (Op.load 29 _) _ _ _ _ :: _) _ _); refine loadB (K1) rfl rfl rfl ?_)
    refine (l2Board_no _ _ hV).mono ?_
    rintro e w1 ⟨rfl, hb2⟩
    have K1 := K1.below hb2 K1.lt
    have K2 := K2.below hb2 K2.lt
    have K3 := K3.below hb2 K3.lt
    have HB : Hid (Below w.heap.size w w1) := HB.out.trans (hb2.mono HB.out.size)
    clear hb2
    go_wp2_with ((with_reducible show wpList _ _ _ (Oper.mk _ (Op.store 29 _ _) _ _ _ _ :: _) _ _); refine storeB (K3) rfl rfl rfl rfl ?_)
    try simp only [Exit.inBlock, Exit.then]
    exact retctB (K3.row 16 _) rfl rfl rfl ⟨rfl, below_setRow HB.out (by omega) _⟩
end Go.Proofs.Ytlboglcpbbnbcab
