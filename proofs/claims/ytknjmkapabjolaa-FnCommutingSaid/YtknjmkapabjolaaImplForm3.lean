/-
  The contract of FormBoard in the program, for every board and every number.
-/
import Derived.Test.YtknjmkapabjolaaImplForm2
import Derived.Test.YtknjmkapabjolaaLineOf
import Derived.Deep.RegionHeld3
namespace Go.Proofs.Ytknjmkapabjolaa
open Go.RowKit Plain
attribute [local go_sem] store_new

/-- A block of n integers lies there, whatever they are. -/
def Some16 (W : World) (b : Nat) : Prop := ∃ g, Blk W b 16 g 29
theorem Some16.of {W : World} {b : Nat} {g : Nat → Int} (h : Blk W b 16 g 29) : Some16 W b := ⟨g, h⟩
theorem Some16.drew {W : World} {b : Nat} (h : Some16 W b) : Some16 W.drew b := h
theorem Some16.run {W : World} {b : Nat} (h : Some16 W b) (F : Nat → Int) : (storeCells ⟨b, 0, none⟩ (mk 16 F).toList).run Try.prog W = .ok () (W.setRow b (mk 16 F)) := by
  obtain ⟨g, hg⟩ := h
  exact run_store_blk F hg
theorem Some16.row {W : World} {b : Nat} {F : Nat → Int} (h : Some16 (W.setRow b (mk 16 F)) b) : Blk (W.setRow b (mk 16 F)) b 16 F 29 := by
  obtain ⟨g, hg⟩ := h
  unfold Blk at hg ⊢
  simp only [World.setRow] at hg ⊢
  cases hq : W.heap[b]? with
  | none => simp [Array.getElem?_modify, hq] at hg
  | some o => cases o <;> simp_all [Array.getElem?_modify]
theorem form_step {w W W' : World} {f : Nat → Int} (h : Blk W w.heap.size 16 f 29 ∧ Some16 W (w.heap.size + 1) ∧ Below w.heap.size w W) (hb : Below W.heap.size W W') : Blk W' w.heap.size 16 f 29 ∧ Some16 W' (w.heap.size + 1) ∧ Below w.heap.size w W' := by
  obtain ⟨h1, ⟨g, h2⟩, h3⟩ := h
  exact ⟨h1.below hb h1.lt, ⟨g, h2.below hb h2.lt⟩, h3.trans (hb.mono h3.size)⟩
theorem form_store {w W : World} {f F : Nat → Int} (h : Blk W w.heap.size 16 f 29 ∧ Some16 W (w.heap.size + 1) ∧ Below w.heap.size w W) : Blk (W.setRow (w.heap.size + 1) (mk 16 F)) w.heap.size 16 f 29 ∧ Some16 (W.setRow (w.heap.size + 1) (mk 16 F)) (w.heap.size + 1) ∧ Below w.heap.size w (W.setRow (w.heap.size + 1) (mk 16 F)) := by
  obtain ⟨h1, ⟨g, h2⟩, h3⟩ := h
  exact ⟨h1.rowOther _ _ (by omega), ⟨F, h2.row 16 F⟩, below_setRow h3 (by omega) _⟩
set_option maxHeartbeats 4000000 in
set_option maxRecDepth 20000 in
theorem implForm_0 (f : Nat → Int) (w : World) (hV : Vd f) :
    Calls Try.prog 56 #[.agg (mk 16 f), .int .i64 0] w fun e w' => e = .returned (.tuple #[.agg (mk 16 (formF f 0)), .bool true]) ∧ Below w.heap.size w w' := by
  have z16 := zero16
  have K1 := (Blk.new w 16 f 29).alloc (.cells (mk 16 fun _ => 0) 29)
  have K2 := Blk.new (w.alloc (.cells (mk 16 f) 29)) 16 (fun _ => 0) 29
  have HB := Lib.hid (((Below.refl w.heap.size w).alloc (Nat.le_refl _) (.cells (mk 16 f) 29)).alloc (by simp) (.cells (mk 16 fun _ => 0) 29))
  simp only [World.size_alloc] at K2
  have HV := Lib.hid hV
  have HC := Lib.hid (form0_any f)
  clear hV
  go_enter Try.func56, Try.ntmps56
  go_wp2_with ((with_reducible show wpList _ _ _ (Oper.mk _ (Op.load 29 _) _ _ _ _ :: _) _ _); refine loadB (K1) rfl rfl rfl ?_)
  refine (implBoard_yes _ _ HV.out).mono ?_
  rintro e w1 ⟨rfl, hb2⟩
  have K1 := K1.below hb2 K1.lt
  have K2 := K2.below hb2 K2.lt
  have HB : Hid (Below w.heap.size w w1) := HB.out.trans (hb2.mono HB.out.size)
  clear hb2
  go_wp2_with fail
  refine (isForm_yes _ _ (by decide) (by decide)).mono ?_
  rintro e w' ⟨rfl, rfl⟩
  clear z16
  go_wp2_with fail
  have a0 := fun (W : World) (h : Blk W w.heap.size 16 f 29) => h.cell (i := 0) (by omega)
  have a1 := fun (W : World) (h : Blk W w.heap.size 16 f 29) => h.cell (i := 1) (by omega)
  have a2 := fun (W : World) (h : Blk W w.heap.size 16 f 29) => h.cell (i := 2) (by omega)
  have a3 := fun (W : World) (h : Blk W w.heap.size 16 f 29) => h.cell (i := 3) (by omega)
  have a4 := fun (W : World) (h : Blk W w.heap.size 16 f 29) => h.cell (i := 4) (by omega)
  have a5 := fun (W : World) (h : Blk W w.heap.size 16 f 29) => h.cell (i := 5) (by omega)
  have a6 := fun (W : World) (h : Blk W w.heap.size 16 f 29) => h.cell (i := 6) (by omega)
  have a7 := fun (W : World) (h : Blk W w.heap.size 16 f 29) => h.cell (i := 7) (by omega)
  have a8 := fun (W : World) (h : Blk W w.heap.size 16 f 29) => h.cell (i := 8) (by omega)
  have a9 := fun (W : World) (h : Blk W w.heap.size 16 f 29) => h.cell (i := 9) (by omega)
  have a10 := fun (W : World) (h : Blk W w.heap.size 16 f 29) => h.cell (i := 10) (by omega)
  have a11 := fun (W : World) (h : Blk W w.heap.size 16 f 29) => h.cell (i := 11) (by omega)
  have a12 := fun (W : World) (h : Blk W w.heap.size 16 f 29) => h.cell (i := 12) (by omega)
  have a13 := fun (W : World) (h : Blk W w.heap.size 16 f 29) => h.cell (i := 13) (by omega)
  have a14 := fun (W : World) (h : Blk W w.heap.size 16 f 29) => h.cell (i := 14) (by omega)
  have a15 := fun (W : World) (h : Blk W w.heap.size 16 f 29) => h.cell (i := 15) (by omega)
  have ae : (#[.int .i64 (f 0), .int .i64 (f 1), .int .i64 (f 2), .int .i64 (f 3), .int .i64 (f 4), .int .i64 (f 5), .int .i64 (f 6), .int .i64 (f 7), .int .i64 (f 8), .int .i64 (f 9), .int .i64 (f 10), .int .i64 (f 11), .int .i64 (f 12), .int .i64 (f 13), .int .i64 (f 14), .int .i64 (f 15)] : Array Value) = mk 16 f := rfl
  have iF := idxF0
  have hst := fun (W : World) (h : Some16 W (w.heap.size + 1)) => h.run (formF f 0)
  have ms := mk_size 16 (formF f 0)
  have S0 : Blk w1 w.heap.size 16 f 29 ∧ Some16 w1 (w.heap.size + 1) ∧ Below w.heap.size w w1 := ⟨K1, .of K2, HB.out⟩
  clear K1 K2 HB
  go_region_held3 (fun w' => Blk w' w.heap.size 16 f 29 ∧ Some16 w' (w.heap.size + 1) ∧ Below w.heap.size w w') (first | exact ⟨Blk.drew (And.left (by assumption)), Some16.drew (And.left (And.right (by assumption))), Below.drew (And.right (And.right (by assumption)))⟩ | assumption | exact form_store (by assumption)) (first | (go_at_call 91; refine (forms_any _).mono ?_; rintro e w3 ⟨rfl, hb3⟩; have J := form_step (by assumption) hb3; clear hb3) | (go_at_call 110; refine (HC.out _).mono ?_; rintro e w4 ⟨rfl, hb4⟩; have J := form_step (by assumption) hb4; clear hb4) | fail)
  all_goals
    clear a0 a1 a2 a3 a4 a5 a6 a7 a8 a9 a10 a11 a12 a13 a14 a15 ae hst
    go_wp2_with fail
    try simp only [Exit.inBlock, Exit.then]
    exact retctB (Some16.row (And.left (And.right (by assumption)))) rfl rfl rfl ⟨rfl, And.right (And.right (by assumption))⟩
set_option maxHeartbeats 4000000 in
set_option maxRecDepth 20000 in
theorem implForm_1 (f : Nat → Int) (w : World) (hV : Vd f) :
    Calls Try.prog 56 #[.agg (mk 16 f), .int .i64 1] w fun e w' => e = .returned (.tuple #[.agg (mk 16 (formF f 1)), .bool true]) ∧ Below w.heap.size w w' := by
  have z16 := zero16
  have K1 := (Blk.new w 16 f 29).alloc (.cells (mk 16 fun _ => 0) 29)
  have K2 := Blk.new (w.alloc (.cells (mk 16 f) 29)) 16 (fun _ => 0) 29
  have HB := Lib.hid (((Below.refl w.heap.size w).alloc (Nat.le_refl _) (.cells (mk 16 f) 29)).alloc (by simp) (.cells (mk 16 fun _ => 0) 29))
  simp only [World.size_alloc] at K2
  have HV := Lib.hid hV
  have HC := Lib.hid (form1_any f)
  clear hV
  go_enter Try.func56, Try.ntmps56
  go_wp2_with ((with_reducible show wpList _ _ _ (Oper.mk _ (Op.load 29 _) _ _ _ _ :: _) _ _); refine loadB (K1) rfl rfl rfl ?_)
  refine (implBoard_yes _ _ HV.out).mono ?_
  rintro e w1 ⟨rfl, hb2⟩
  have K1 := K1.below hb2 K1.lt
  have K2 := K2.below hb2 K2.lt
  have HB : Hid (Below w.heap.size w w1) := HB.out.trans (hb2.mono HB.out.size)
  clear hb2
  go_wp2_with fail
  refine (isForm_yes _ _ (by decide) (by decide)).mono ?_
  rintro e w' ⟨rfl, rfl⟩
  clear z16
  go_wp2_with fail
  have a0 := fun (W : World) (h : Blk W w.heap.size 16 f 29) => h.cell (i := 0) (by omega)
  have a1 := fun (W : World) (h : Blk W w.heap.size 16 f 29) => h.cell (i := 1) (by omega)
  have a2 := fun (W : World) (h : Blk W w.heap.size 16 f 29) => h.cell (i := 2) (by omega)
  have a3 := fun (W : World) (h : Blk W w.heap.size 16 f 29) => h.cell (i := 3) (by omega)
  have a4 := fun (W : World) (h : Blk W w.heap.size 16 f 29) => h.cell (i := 4) (by omega)
  have a5 := fun (W : World) (h : Blk W w.heap.size 16 f 29) => h.cell (i := 5) (by omega)
  have a6 := fun (W : World) (h : Blk W w.heap.size 16 f 29) => h.cell (i := 6) (by omega)
  have a7 := fun (W : World) (h : Blk W w.heap.size 16 f 29) => h.cell (i := 7) (by omega)
  have a8 := fun (W : World) (h : Blk W w.heap.size 16 f 29) => h.cell (i := 8) (by omega)
  have a9 := fun (W : World) (h : Blk W w.heap.size 16 f 29) => h.cell (i := 9) (by omega)
  have a10 := fun (W : World) (h : Blk W w.heap.size 16 f 29) => h.cell (i := 10) (by omega)
  have a11 := fun (W : World) (h : Blk W w.heap.size 16 f 29) => h.cell (i := 11) (by omega)
  have a12 := fun (W : World) (h : Blk W w.heap.size 16 f 29) => h.cell (i := 12) (by omega)
  have a13 := fun (W : World) (h : Blk W w.heap.size 16 f 29) => h.cell (i := 13) (by omega)
  have a14 := fun (W : World) (h : Blk W w.heap.size 16 f 29) => h.cell (i := 14) (by omega)
  have a15 := fun (W : World) (h : Blk W w.heap.size 16 f 29) => h.cell (i := 15) (by omega)
  have ae : (#[.int .i64 (f 0), .int .i64 (f 1), .int .i64 (f 2), .int .i64 (f 3), .int .i64 (f 4), .int .i64 (f 5), .int .i64 (f 6), .int .i64 (f 7), .int .i64 (f 8), .int .i64 (f 9), .int .i64 (f 10), .int .i64 (f 11), .int .i64 (f 12), .int .i64 (f 13), .int .i64 (f 14), .int .i64 (f 15)] : Array Value) = mk 16 f := rfl
  have iF := idxF1
  have hst := fun (W : World) (h : Some16 W (w.heap.size + 1)) => h.run (formF f 1)
  have ms := mk_size 16 (formF f 1)
  have S0 : Blk w1 w.heap.size 16 f 29 ∧ Some16 w1 (w.heap.size + 1) ∧ Below w.heap.size w w1 := ⟨K1, .of K2, HB.out⟩
  clear K1 K2 HB
  go_region_held3 (fun w' => Blk w' w.heap.size 16 f 29 ∧ Some16 w' (w.heap.size + 1) ∧ Below w.heap.size w w') (first | exact ⟨Blk.drew (And.left (by assumption)), Some16.drew (And.left (And.right (by assumption))), Below.drew (And.right (And.right (by assumption)))⟩ | assumption | exact form_store (by assumption)) (first | (go_at_call 91; refine (forms_any _).mono ?_; rintro e w3 ⟨rfl, hb3⟩; have J := form_step (by assumption) hb3; clear hb3) | (go_at_call 111; refine (HC.out _).mono ?_; rintro e w4 ⟨rfl, hb4⟩; have J := form_step (by assumption) hb4; clear hb4) | fail)
  all_goals
    clear a0 a1 a2 a3 a4 a5 a6 a7 a8 a9 a10 a11 a12 a13 a14 a15 ae hst
    go_wp2_with fail
    try simp only [Exit.inBlock, Exit.then]
    exact retctB (Some16.row (And.left (And.right (by assumption)))) rfl rfl rfl ⟨rfl, And.right (And.right (by assumption))⟩
set_option maxHeartbeats 4000000 in
set_option maxRecDepth 20000 in
theorem implForm_2 (f : Nat → Int) (w : World) (hV : Vd f) :
    Calls Try.prog 56 #[.agg (mk 16 f), .int .i64 2] w fun e w' => e = .returned (.tuple #[.agg (mk 16 (formF f 2)), .bool true]) ∧ Below w.heap.size w w' := by
  have z16 := zero16
  have K1 := (Blk.new w 16 f 29).alloc (.cells (mk 16 fun _ => 0) 29)
  have K2 := Blk.new (w.alloc (.cells (mk 16 f) 29)) 16 (fun _ => 0) 29
  have HB := Lib.hid (((Below.refl w.heap.size w).alloc (Nat.le_refl _) (.cells (mk 16 f) 29)).alloc (by simp) (.cells (mk 16 fun _ => 0) 29))
  simp only [World.size_alloc] at K2
  have HV := Lib.hid hV
  have HC := Lib.hid (form2_any f)
  clear hV
  go_enter Try.func56, Try.ntmps56
  go_wp2_with ((with_reducible show wpList _ _ _ (Oper.mk _ (Op.load 29 _) _ _ _ _ :: _) _ _); refine loadB (K1) rfl rfl rfl ?_)
  refine (implBoard_yes _ _ HV.out).mono ?_
  rintro e w1 ⟨rfl, hb2⟩
  have K1 := K1.below hb2 K1.lt
  have K2 := K2.below hb2 K2.lt
  have HB : Hid (Below w.heap.size w w1) := HB.out.trans (hb2.mono HB.out.size)
  clear hb2
  go_wp2_with fail
  refine (isForm_yes _ _ (by decide) (by decide)).mono ?_
  rintro e w' ⟨rfl, rfl⟩
  clear z16
  go_wp2_with fail
  have a0 := fun (W : World) (h : Blk W w.heap.size 16 f 29) => h.cell (i := 0) (by omega)
  have a1 := fun (W : World) (h : Blk W w.heap.size 16 f 29) => h.cell (i := 1) (by omega)
  have a2 := fun (W : World) (h : Blk W w.heap.size 16 f 29) => h.cell (i := 2) (by omega)
  have a3 := fun (W : World) (h : Blk W w.heap.size 16 f 29) => h.cell (i := 3) (by omega)
  have a4 := fun (W : World) (h : Blk W w.heap.size 16 f 29) => h.cell (i := 4) (by omega)
  have a5 := fun (W : World) (h : Blk W w.heap.size 16 f 29) => h.cell (i := 5) (by omega)
  have a6 := fun (W : World) (h : Blk W w.heap.size 16 f 29) => h.cell (i := 6) (by omega)
  have a7 := fun (W : World) (h : Blk W w.heap.size 16 f 29) => h.cell (i := 7) (by omega)
  have a8 := fun (W : World) (h : Blk W w.heap.size 16 f 29) => h.cell (i := 8) (by omega)
  have a9 := fun (W : World) (h : Blk W w.heap.size 16 f 29) => h.cell (i := 9) (by omega)
  have a10 := fun (W : World) (h : Blk W w.heap.size 16 f 29) => h.cell (i := 10) (by omega)
  have a11 := fun (W : World) (h : Blk W w.heap.size 16 f 29) => h.cell (i := 11) (by omega)
  have a12 := fun (W : World) (h : Blk W w.heap.size 16 f 29) => h.cell (i := 12) (by omega)
  have a13 := fun (W : World) (h : Blk W w.heap.size 16 f 29) => h.cell (i := 13) (by omega)
  have a14 := fun (W : World) (h : Blk W w.heap.size 16 f 29) => h.cell (i := 14) (by omega)
  have a15 := fun (W : World) (h : Blk W w.heap.size 16 f 29) => h.cell (i := 15) (by omega)
  have ae : (#[.int .i64 (f 0), .int .i64 (f 1), .int .i64 (f 2), .int .i64 (f 3), .int .i64 (f 4), .int .i64 (f 5), .int .i64 (f 6), .int .i64 (f 7), .int .i64 (f 8), .int .i64 (f 9), .int .i64 (f 10), .int .i64 (f 11), .int .i64 (f 12), .int .i64 (f 13), .int .i64 (f 14), .int .i64 (f 15)] : Array Value) = mk 16 f := rfl
  have iF := idxF2
  have hst := fun (W : World) (h : Some16 W (w.heap.size + 1)) => h.run (formF f 2)
  have ms := mk_size 16 (formF f 2)
  have S0 : Blk w1 w.heap.size 16 f 29 ∧ Some16 w1 (w.heap.size + 1) ∧ Below w.heap.size w w1 := ⟨K1, .of K2, HB.out⟩
  clear K1 K2 HB
  go_region_held3 (fun w' => Blk w' w.heap.size 16 f 29 ∧ Some16 w' (w.heap.size + 1) ∧ Below w.heap.size w w') (first | exact ⟨Blk.drew (And.left (by assumption)), Some16.drew (And.left (And.right (by assumption))), Below.drew (And.right (And.right (by assumption)))⟩ | assumption | exact form_store (by assumption)) (first | (go_at_call 91; refine (forms_any _).mono ?_; rintro e w3 ⟨rfl, hb3⟩; have J := form_step (by assumption) hb3; clear hb3) | (go_at_call 112; refine (HC.out _).mono ?_; rintro e w4 ⟨rfl, hb4⟩; have J := form_step (by assumption) hb4; clear hb4) | fail)
  all_goals
    clear a0 a1 a2 a3 a4 a5 a6 a7 a8 a9 a10 a11 a12 a13 a14 a15 ae hst
    go_wp2_with fail
    try simp only [Exit.inBlock, Exit.then]
    exact retctB (Some16.row (And.left (And.right (by assumption)))) rfl rfl rfl ⟨rfl, And.right (And.right (by assumption))⟩
set_option maxHeartbeats 4000000 in
set_option maxRecDepth 20000 in
theorem implForm_3 (f : Nat → Int) (w : World) (hV : Vd f) :
    Calls Try.prog 56 #[.agg (mk 16 f), .int .i64 3] w fun e w' => e = .returned (.tuple #[.agg (mk 16 (formF f 3)), .bool true]) ∧ Below w.heap.size w w' := by
  have z16 := zero16
  have K1 := (Blk.new w 16 f 29).alloc (.cells (mk 16 fun _ => 0) 29)
  have K2 := Blk.new (w.alloc (.cells (mk 16 f) 29)) 16 (fun _ => 0) 29
  have HB := Lib.hid (((Below.refl w.heap.size w).alloc (Nat.le_refl _) (.cells (mk 16 f) 29)).alloc (by simp) (.cells (mk 16 fun _ => 0) 29))
  simp only [World.size_alloc] at K2
  have HV := Lib.hid hV
  have HC := Lib.hid (form3_any f)
  clear hV
  go_enter Try.func56, Try.ntmps56
  go_wp2_with ((with_reducible show wpList _ _ _ (Oper.mk _ (Op.load 29 _) _ _ _ _ :: _) _ _); refine loadB (K1) rfl rfl rfl ?_)
  refine (implBoard_yes _ _ HV.out).mono ?_
  rintro e w1 ⟨rfl, hb2⟩
  have K1 := K1.below hb2 K1.lt
  have K2 := K2.below hb2 K2.lt
  have HB : Hid (Below w.heap.size w w1) := HB.out.trans (hb2.mono HB.out.size)
  clear hb2
  go_wp2_with fail
  refine (isForm_yes _ _ (by decide) (by decide)).mono ?_
  rintro e w' ⟨rfl, rfl⟩
  clear z16
  go_wp2_with fail
  have a0 := fun (W : World) (h : Blk W w.heap.size 16 f 29) => h.cell (i := 0) (by omega)
  have a1 := fun (W : World) (h : Blk W w.heap.size 16 f 29) => h.cell (i := 1) (by omega)
  have a2 := fun (W : World) (h : Blk W w.heap.size 16 f 29) => h.cell (i := 2) (by omega)
  have a3 := fun (W : World) (h : Blk W w.heap.size 16 f 29) => h.cell (i := 3) (by omega)
  have a4 := fun (W : World) (h : Blk W w.heap.size 16 f 29) => h.cell (i := 4) (by omega)
  have a5 := fun (W : World) (h : Blk W w.heap.size 16 f 29) => h.cell (i := 5) (by omega)
  have a6 := fun (W : World) (h : Blk W w.heap.size 16 f 29) => h.cell (i := 6) (by omega)
  have a7 := fun (W : World) (h : Blk W w.heap.size 16 f 29) => h.cell (i := 7) (by omega)
  have a8 := fun (W : World) (h : Blk W w.heap.size 16 f 29) => h.cell (i := 8) (by omega)
  have a9 := fun (W : World) (h : Blk W w.heap.size 16 f 29) => h.cell (i := 9) (by omega)
  have a10 := fun (W : World) (h : Blk W w.heap.size 16 f 29) => h.cell (i := 10) (by omega)
  have a11 := fun (W : World) (h : Blk W w.heap.size 16 f 29) => h.cell (i := 11) (by omega)
  have a12 := fun (W : World) (h : Blk W w.heap.size 16 f 29) => h.cell (i := 12) (by omega)
  have a13 := fun (W : World) (h : Blk W w.heap.size 16 f 29) => h.cell (i := 13) (by omega)
  have a14 := fun (W : World) (h : Blk W w.heap.size 16 f 29) => h.cell (i := 14) (by omega)
  have a15 := fun (W : World) (h : Blk W w.heap.size 16 f 29) => h.cell (i := 15) (by omega)
  have ae : (#[.int .i64 (f 0), .int .i64 (f 1), .int .i64 (f 2), .int .i64 (f 3), .int .i64 (f 4), .int .i64 (f 5), .int .i64 (f 6), .int .i64 (f 7), .int .i64 (f 8), .int .i64 (f 9), .int .i64 (f 10), .int .i64 (f 11), .int .i64 (f 12), .int .i64 (f 13), .int .i64 (f 14), .int .i64 (f 15)] : Array Value) = mk 16 f := rfl
  have iF := idxF3
  have hst := fun (W : World) (h : Some16 W (w.heap.size + 1)) => h.run (formF f 3)
  have ms := mk_size 16 (formF f 3)
  have S0 : Blk w1 w.heap.size 16 f 29 ∧ Some16 w1 (w.heap.size + 1) ∧ Below w.heap.size w w1 := ⟨K1, .of K2, HB.out⟩
  clear K1 K2 HB
  go_region_held3 (fun w' => Blk w' w.heap.size 16 f 29 ∧ Some16 w' (w.heap.size + 1) ∧ Below w.heap.size w w') (first | exact ⟨Blk.drew (And.left (by assumption)), Some16.drew (And.left (And.right (by assumption))), Below.drew (And.right (And.right (by assumption)))⟩ | assumption | exact form_store (by assumption)) (first | (go_at_call 91; refine (forms_any _).mono ?_; rintro e w3 ⟨rfl, hb3⟩; have J := form_step (by assumption) hb3; clear hb3) | (go_at_call 113; refine (HC.out _).mono ?_; rintro e w4 ⟨rfl, hb4⟩; have J := form_step (by assumption) hb4; clear hb4) | fail)
  all_goals
    clear a0 a1 a2 a3 a4 a5 a6 a7 a8 a9 a10 a11 a12 a13 a14 a15 ae hst
    go_wp2_with fail
    try simp only [Exit.inBlock, Exit.then]
    exact retctB (Some16.row (And.left (And.right (by assumption)))) rfl rfl rfl ⟨rfl, And.right (And.right (by assumption))⟩
set_option maxHeartbeats 4000000 in
set_option maxRecDepth 20000 in
theorem implForm_4 (f : Nat → Int) (w : World) (hV : Vd f) :
    Calls Try.prog 56 #[.agg (mk 16 f), .int .i64 4] w fun e w' => e = .returned (.tuple #[.agg (mk 16 (formF f 4)), .bool true]) ∧ Below w.heap.size w w' := by
  have z16 := zero16
  have K1 := (Blk.new w 16 f 29).alloc (.cells (mk 16 fun _ => 0) 29)
  have K2 := Blk.new (w.alloc (.cells (mk 16 f) 29)) 16 (fun _ => 0) 29
  have HB := Lib.hid (((Below.refl w.heap.size w).alloc (Nat.le_refl _) (.cells (mk 16 f) 29)).alloc (by simp) (.cells (mk 16 fun _ => 0) 29))
  simp only [World.size_alloc] at K2
  have HV := Lib.hid hV
  have HC := Lib.hid (form4_any f)
  clear hV
  go_enter Try.func56, Try.ntmps56
  go_wp2_with ((with_reducible show wpList _ _ _ (Oper.mk _ (Op.load 29 _) _ _ _ _ :: _) _ _); refine loadB (K1) rfl rfl rfl ?_)
  refine (implBoard_yes _ _ HV.out).mono ?_
  rintro e w1 ⟨rfl, hb2⟩
  have K1 := K1.below hb2 K1.lt
  have K2 := K2.below hb2 K2.lt
  have HB : Hid (Below w.heap.size w w1) := HB.out.trans (hb2.mono HB.out.size)
  clear hb2
  go_wp2_with fail
  refine (isForm_yes _ _ (by decide) (by decide)).mono ?_
  rintro e w' ⟨rfl, rfl⟩
  clear z16
  go_wp2_with fail
  have a0 := fun (W : World) (h : Blk W w.heap.size 16 f 29) => h.cell (i := 0) (by omega)
  have a1 := fun (W : World) (h : Blk W w.heap.size 16 f 29) => h.cell (i := 1) (by omega)
  have a2 := fun (W : World) (h : Blk W w.heap.size 16 f 29) => h.cell (i := 2) (by omega)
  have a3 := fun (W : World) (h : Blk W w.heap.size 16 f 29) => h.cell (i := 3) (by omega)
  have a4 := fun (W : World) (h : Blk W w.heap.size 16 f 29) => h.cell (i := 4) (by omega)
  have a5 := fun (W : World) (h : Blk W w.heap.size 16 f 29) => h.cell (i := 5) (by omega)
  have a6 := fun (W : World) (h : Blk W w.heap.size 16 f 29) => h.cell (i := 6) (by omega)
  have a7 := fun (W : World) (h : Blk W w.heap.size 16 f 29) => h.cell (i := 7) (by omega)
  have a8 := fun (W : World) (h : Blk W w.heap.size 16 f 29) => h.cell (i := 8) (by omega)
  have a9 := fun (W : World) (h : Blk W w.heap.size 16 f 29) => h.cell (i := 9) (by omega)
  have a10 := fun (W : World) (h : Blk W w.heap.size 16 f 29) => h.cell (i := 10) (by omega)
  have a11 := fun (W : World) (h : Blk W w.heap.size 16 f 29) => h.cell (i := 11) (by omega)
  have a12 := fun (W : World) (h : Blk W w.heap.size 16 f 29) => h.cell (i := 12) (by omega)
  have a13 := fun (W : World) (h : Blk W w.heap.size 16 f 29) => h.cell (i := 13) (by omega)
  have a14 := fun (W : World) (h : Blk W w.heap.size 16 f 29) => h.cell (i := 14) (by omega)
  have a15 := fun (W : World) (h : Blk W w.heap.size 16 f 29) => h.cell (i := 15) (by omega)
  have ae : (#[.int .i64 (f 0), .int .i64 (f 1), .int .i64 (f 2), .int .i64 (f 3), .int .i64 (f 4), .int .i64 (f 5), .int .i64 (f 6), .int .i64 (f 7), .int .i64 (f 8), .int .i64 (f 9), .int .i64 (f 10), .int .i64 (f 11), .int .i64 (f 12), .int .i64 (f 13), .int .i64 (f 14), .int .i64 (f 15)] : Array Value) = mk 16 f := rfl
  have iF := idxF4
  have hst := fun (W : World) (h : Some16 W (w.heap.size + 1)) => h.run (formF f 4)
  have ms := mk_size 16 (formF f 4)
  have S0 : Blk w1 w.heap.size 16 f 29 ∧ Some16 w1 (w.heap.size + 1) ∧ Below w.heap.size w w1 := ⟨K1, .of K2, HB.out⟩
  clear K1 K2 HB
  go_region_held3 (fun w' => Blk w' w.heap.size 16 f 29 ∧ Some16 w' (w.heap.size + 1) ∧ Below w.heap.size w w') (first | exact ⟨Blk.drew (And.left (by assumption)), Some16.drew (And.left (And.right (by assumption))), Below.drew (And.right (And.right (by assumption)))⟩ | assumption | exact form_store (by assumption)) (first | (go_at_call 91; refine (forms_any _).mono ?_; rintro e w3 ⟨rfl, hb3⟩; have J := form_step (by assumption) hb3; clear hb3) | (go_at_call 114; refine (HC.out _).mono ?_; rintro e w4 ⟨rfl, hb4⟩; have J := form_step (by assumption) hb4; clear hb4) | fail)
  all_goals
    clear a0 a1 a2 a3 a4 a5 a6 a7 a8 a9 a10 a11 a12 a13 a14 a15 ae hst
    go_wp2_with fail
    try simp only [Exit.inBlock, Exit.then]
    exact retctB (Some16.row (And.left (And.right (by assumption)))) rfl rfl rfl ⟨rfl, And.right (And.right (by assumption))⟩
set_option maxHeartbeats 4000000 in
set_option maxRecDepth 20000 in
theorem implForm_5 (f : Nat → Int) (w : World) (hV : Vd f) :
    Calls Try.prog 56 #[.agg (mk 16 f), .int .i64 5] w fun e w' => e = .returned (.tuple #[.agg (mk 16 (formF f 5)), .bool true]) ∧ Below w.heap.size w w' := by
  have z16 := zero16
  have K1 := (Blk.new w 16 f 29).alloc (.cells (mk 16 fun _ => 0) 29)
  have K2 := Blk.new (w.alloc (.cells (mk 16 f) 29)) 16 (fun _ => 0) 29
  have HB := Lib.hid (((Below.refl w.heap.size w).alloc (Nat.le_refl _) (.cells (mk 16 f) 29)).alloc (by simp) (.cells (mk 16 fun _ => 0) 29))
  simp only [World.size_alloc] at K2
  have HV := Lib.hid hV
  have HC := Lib.hid (form5_any f)
  clear hV
  go_enter Try.func56, Try.ntmps56
  go_wp2_with ((with_reducible show wpList _ _ _ (Oper.mk _ (Op.load 29 _) _ _ _ _ :: _) _ _); refine loadB (K1) rfl rfl rfl ?_)
  refine (implBoard_yes _ _ HV.out).mono ?_
  rintro e w1 ⟨rfl, hb2⟩
  have K1 := K1.below hb2 K1.lt
  have K2 := K2.below hb2 K2.lt
  have HB : Hid (Below w.heap.size w w1) := HB.out.trans (hb2.mono HB.out.size)
  clear hb2
  go_wp2_with fail
  refine (isForm_yes _ _ (by decide) (by decide)).mono ?_
  rintro e w' ⟨rfl, rfl⟩
  clear z16
  go_wp2_with fail
  have a0 := fun (W : World) (h : Blk W w.heap.size 16 f 29) => h.cell (i := 0) (by omega)
  have a1 := fun (W : World) (h : Blk W w.heap.size 16 f 29) => h.cell (i := 1) (by omega)
  have a2 := fun (W : World) (h : Blk W w.heap.size 16 f 29) => h.cell (i := 2) (by omega)
  have a3 := fun (W : World) (h : Blk W w.heap.size 16 f 29) => h.cell (i := 3) (by omega)
  have a4 := fun (W : World) (h : Blk W w.heap.size 16 f 29) => h.cell (i := 4) (by omega)
  have a5 := fun (W : World) (h : Blk W w.heap.size 16 f 29) => h.cell (i := 5) (by omega)
  have a6 := fun (W : World) (h : Blk W w.heap.size 16 f 29) => h.cell (i := 6) (by omega)
  have a7 := fun (W : World) (h : Blk W w.heap.size 16 f 29) => h.cell (i := 7) (by omega)
  have a8 := fun (W : World) (h : Blk W w.heap.size 16 f 29) => h.cell (i := 8) (by omega)
  have a9 := fun (W : World) (h : Blk W w.heap.size 16 f 29) => h.cell (i := 9) (by omega)
  have a10 := fun (W : World) (h : Blk W w.heap.size 16 f 29) => h.cell (i := 10) (by omega)
  have a11 := fun (W : World) (h : Blk W w.heap.size 16 f 29) => h.cell (i := 11) (by omega)
  have a12 := fun (W : World) (h : Blk W w.heap.size 16 f 29) => h.cell (i := 12) (by omega)
  have a13 := fun (W : World) (h : Blk W w.heap.size 16 f 29) => h.cell (i := 13) (by omega)
  have a14 := fun (W : World) (h : Blk W w.heap.size 16 f 29) => h.cell (i := 14) (by omega)
  have a15 := fun (W : World) (h : Blk W w.heap.size 16 f 29) => h.cell (i := 15) (by omega)
  have ae : (#[.int .i64 (f 0), .int .i64 (f 1), .int .i64 (f 2), .int .i64 (f 3), .int .i64 (f 4), .int .i64 (f 5), .int .i64 (f 6), .int .i64 (f 7), .int .i64 (f 8), .int .i64 (f 9), .int .i64 (f 10), .int .i64 (f 11), .int .i64 (f 12), .int .i64 (f 13), .int .i64 (f 14), .int .i64 (f 15)] : Array Value) = mk 16 f := rfl
  have iF := idxF5
  have hst := fun (W : World) (h : Some16 W (w.heap.size + 1)) => h.run (formF f 5)
  have ms := mk_size 16 (formF f 5)
  have S0 : Blk w1 w.heap.size 16 f 29 ∧ Some16 w1 (w.heap.size + 1) ∧ Below w.heap.size w w1 := ⟨K1, .of K2, HB.out⟩
  clear K1 K2 HB
  go_region_held3 (fun w' => Blk w' w.heap.size 16 f 29 ∧ Some16 w' (w.heap.size + 1) ∧ Below w.heap.size w w') (first | exact ⟨Blk.drew (And.left (by assumption)), Some16.drew (And.left (And.right (by assumption))), Below.drew (And.right (And.right (by assumption)))⟩ | assumption | exact form_store (by assumption)) (first | (go_at_call 91; refine (forms_any _).mono ?_; rintro e w3 ⟨rfl, hb3⟩; have J := form_step (by assumption) hb3; clear hb3) | (go_at_call 115; refine (HC.out _).mono ?_; rintro e w4 ⟨rfl, hb4⟩; have J := form_step (by assumption) hb4; clear hb4) | fail)
  all_goals
    clear a0 a1 a2 a3 a4 a5 a6 a7 a8 a9 a10 a11 a12 a13 a14 a15 ae hst
    go_wp2_with fail
    try simp only [Exit.inBlock, Exit.then]
    exact retctB (Some16.row (And.left (And.right (by assumption)))) rfl rfl rfl ⟨rfl, And.right (And.right (by assumption))⟩
set_option maxHeartbeats 4000000 in
set_option maxRecDepth 20000 in
theorem implForm_6 (f : Nat → Int) (w : World) (hV : Vd f) :
    Calls Try.prog 56 #[.agg (mk 16 f), .int .i64 6] w fun e w' => e = .returned (.tuple #[.agg (mk 16 (formF f 6)), .bool true]) ∧ Below w.heap.size w w' := by
  have z16 := zero16
  have K1 := (Blk.new w 16 f 29).alloc (.cells (mk 16 fun _ => 0) 29)
  have K2 := Blk.new (w.alloc (.cells (mk 16 f) 29)) 16 (fun _ => 0) 29
  have HB := Lib.hid (((Below.refl w.heap.size w).alloc (Nat.le_refl _) (.cells (mk 16 f) 29)).alloc (by simp) (.cells (mk 16 fun _ => 0) 29))
  simp only [World.size_alloc] at K2
  have HV := Lib.hid hV
  have HC := Lib.hid (form6_any f)
  clear hV
  go_enter Try.func56, Try.ntmps56
  go_wp2_with ((with_reducible show wpList _ _ _ (Oper.mk _ (Op.load 29 _) _ _ _ _ :: _) _ _); refine loadB (K1) rfl rfl rfl ?_)
  refine (implBoard_yes _ _ HV.out).mono ?_
  rintro e w1 ⟨rfl, hb2⟩
  have K1 := K1.below hb2 K1.lt
  have K2 := K2.below hb2 K2.lt
  have HB : Hid (Below w.heap.size w w1) := HB.out.trans (hb2.mono HB.out.size)
  clear hb2
  go_wp2_with fail
  refine (isForm_yes _ _ (by decide) (by decide)).mono ?_
  rintro e w' ⟨rfl, rfl⟩
  clear z16
  go_wp2_with fail
  have a0 := fun (W : World) (h : Blk W w.heap.size 16 f 29) => h.cell (i := 0) (by omega)
  have a1 := fun (W : World) (h : Blk W w.heap.size 16 f 29) => h.cell (i := 1) (by omega)
  have a2 := fun (W : World) (h : Blk W w.heap.size 16 f 29) => h.cell (i := 2) (by omega)
  have a3 := fun (W : World) (h : Blk W w.heap.size 16 f 29) => h.cell (i := 3) (by omega)
  have a4 := fun (W : World) (h : Blk W w.heap.size 16 f 29) => h.cell (i := 4) (by omega)
  have a5 := fun (W : World) (h : Blk W w.heap.size 16 f 29) => h.cell (i := 5) (by omega)
  have a6 := fun (W : World) (h : Blk W w.heap.size 16 f 29) => h.cell (i := 6) (by omega)
  have a7 := fun (W : World) (h : Blk W w.heap.size 16 f 29) => h.cell (i := 7) (by omega)
  have a8 := fun (W : World) (h : Blk W w.heap.size 16 f 29) => h.cell (i := 8) (by omega)
  have a9 := fun (W : World) (h : Blk W w.heap.size 16 f 29) => h.cell (i := 9) (by omega)
  have a10 := fun (W : World) (h : Blk W w.heap.size 16 f 29) => h.cell (i := 10) (by omega)
  have a11 := fun (W : World) (h : Blk W w.heap.size 16 f 29) => h.cell (i := 11) (by omega)
  have a12 := fun (W : World) (h : Blk W w.heap.size 16 f 29) => h.cell (i := 12) (by omega)
  have a13 := fun (W : World) (h : Blk W w.heap.size 16 f 29) => h.cell (i := 13) (by omega)
  have a14 := fun (W : World) (h : Blk W w.heap.size 16 f 29) => h.cell (i := 14) (by omega)
  have a15 := fun (W : World) (h : Blk W w.heap.size 16 f 29) => h.cell (i := 15) (by omega)
  have ae : (#[.int .i64 (f 0), .int .i64 (f 1), .int .i64 (f 2), .int .i64 (f 3), .int .i64 (f 4), .int .i64 (f 5), .int .i64 (f 6), .int .i64 (f 7), .int .i64 (f 8), .int .i64 (f 9), .int .i64 (f 10), .int .i64 (f 11), .int .i64 (f 12), .int .i64 (f 13), .int .i64 (f 14), .int .i64 (f 15)] : Array Value) = mk 16 f := rfl
  have iF := idxF6
  have hst := fun (W : World) (h : Some16 W (w.heap.size + 1)) => h.run (formF f 6)
  have ms := mk_size 16 (formF f 6)
  have S0 : Blk w1 w.heap.size 16 f 29 ∧ Some16 w1 (w.heap.size + 1) ∧ Below w.heap.size w w1 := ⟨K1, .of K2, HB.out⟩
  clear K1 K2 HB
  go_region_held3 (fun w' => Blk w' w.heap.size 16 f 29 ∧ Some16 w' (w.heap.size + 1) ∧ Below w.heap.size w w') (first | exact ⟨Blk.drew (And.left (by assumption)), Some16.drew (And.left (And.right (by assumption))), Below.drew (And.right (And.right (by assumption)))⟩ | assumption | exact form_store (by assumption)) (first | (go_at_call 91; refine (forms_any _).mono ?_; rintro e w3 ⟨rfl, hb3⟩; have J := form_step (by assumption) hb3; clear hb3) | (go_at_call 116; refine (HC.out _).mono ?_; rintro e w4 ⟨rfl, hb4⟩; have J := form_step (by assumption) hb4; clear hb4) | fail)
  all_goals
    clear a0 a1 a2 a3 a4 a5 a6 a7 a8 a9 a10 a11 a12 a13 a14 a15 ae hst
    go_wp2_with fail
    try simp only [Exit.inBlock, Exit.then]
    exact retctB (Some16.row (And.left (And.right (by assumption)))) rfl rfl rfl ⟨rfl, And.right (And.right (by assumption))⟩
set_option maxHeartbeats 4000000 in
set_option maxRecDepth 20000 in
theorem implForm_7 (f : Nat → Int) (w : World) (hV : Vd f) :
    Calls Try.prog 56 #[.agg (mk 16 f), .int .i64 7] w fun e w' => e = .returned (.tuple #[.agg (mk 16 (formF f 7)), .bool true]) ∧ Below w.heap.size w w' := by
  have z16 := zero16
  have K1 := (Blk.new w 16 f 29).alloc (.cells (mk 16 fun _ => 0) 29)
  have K2 := Blk.new (w.alloc (.cells (mk 16 f) 29)) 16 (fun _ => 0) 29
  have HB := Lib.hid (((Below.refl w.heap.size w).alloc (Nat.le_refl _) (.cells (mk 16 f) 29)).alloc (by simp) (.cells (mk 16 fun _ => 0) 29))
  simp only [World.size_alloc] at K2
  have HV := Lib.hid hV
  have HC := Lib.hid (form7_any f)
  clear hV
  go_enter Try.func56, Try.ntmps56
  go_wp2_with ((with_reducible show wpList _ _ _ (Oper.mk _ (Op.load 29 _) _ _ _ _ :: _) _ _); refine loadB (K1) rfl rfl rfl ?_)
  refine (implBoard_yes _ _ HV.out).mono ?_
  rintro e w1 ⟨rfl, hb2⟩
  have K1 := K1.below hb2 K1.lt
  have K2 := K2.below hb2 K2.lt
  have HB : Hid (Below w.heap.size w w1) := HB.out.trans (hb2.mono HB.out.size)
  clear hb2
  go_wp2_with fail
  refine (isForm_yes _ _ (by decide) (by decide)).mono ?_
  rintro e w' ⟨rfl, rfl⟩
  clear z16
  go_wp2_with fail
  have a0 := fun (W : World) (h : Blk W w.heap.size 16 f 29) => h.cell (i := 0) (by omega)
  have a1 := fun (W : World) (h : Blk W w.heap.size 16 f 29) => h.cell (i := 1) (by omega)
  have a2 := fun (W : World) (h : Blk W w.heap.size 16 f 29) => h.cell (i := 2) (by omega)
  have a3 := fun (W : World) (h : Blk W w.heap.size 16 f 29) => h.cell (i := 3) (by omega)
  have a4 := fun (W : World) (h : Blk W w.heap.size 16 f 29) => h.cell (i := 4) (by omega)
  have a5 := fun (W : World) (h : Blk W w.heap.size 16 f 29) => h.cell (i := 5) (by omega)
  have a6 := fun (W : World) (h : Blk W w.heap.size 16 f 29) => h.cell (i := 6) (by omega)
  have a7 := fun (W : World) (h : Blk W w.heap.size 16 f 29) => h.cell (i := 7) (by omega)
  have a8 := fun (W : World) (h : Blk W w.heap.size 16 f 29) => h.cell (i := 8) (by omega)
  have a9 := fun (W : World) (h : Blk W w.heap.size 16 f 29) => h.cell (i := 9) (by omega)
  have a10 := fun (W : World) (h : Blk W w.heap.size 16 f 29) => h.cell (i := 10) (by omega)
  have a11 := fun (W : World) (h : Blk W w.heap.size 16 f 29) => h.cell (i := 11) (by omega)
  have a12 := fun (W : World) (h : Blk W w.heap.size 16 f 29) => h.cell (i := 12) (by omega)
  have a13 := fun (W : World) (h : Blk W w.heap.size 16 f 29) => h.cell (i := 13) (by omega)
  have a14 := fun (W : World) (h : Blk W w.heap.size 16 f 29) => h.cell (i := 14) (by omega)
  have a15 := fun (W : World) (h : Blk W w.heap.size 16 f 29) => h.cell (i := 15) (by omega)
  have ae : (#[.int .i64 (f 0), .int .i64 (f 1), .int .i64 (f 2), .int .i64 (f 3), .int .i64 (f 4), .int .i64 (f 5), .int .i64 (f 6), .int .i64 (f 7), .int .i64 (f 8), .int .i64 (f 9), .int .i64 (f 10), .int .i64 (f 11), .int .i64 (f 12), .int .i64 (f 13), .int .i64 (f 14), .int .i64 (f 15)] : Array Value) = mk 16 f := rfl
  have iF := idxF7
  have hst := fun (W : World) (h : Some16 W (w.heap.size + 1)) => h.run (formF f 7)
  have ms := mk_size 16 (formF f 7)
  have S0 : Blk w1 w.heap.size 16 f 29 ∧ Some16 w1 (w.heap.size + 1) ∧ Below w.heap.size w w1 := ⟨K1, .of K2, HB.out⟩
  clear K1 K2 HB
  go_region_held3 (fun w' => Blk w' w.heap.size 16 f 29 ∧ Some16 w' (w.heap.size + 1) ∧ Below w.heap.size w w') (first | exact ⟨Blk.drew (And.left (by assumption)), Some16.drew (And.left (And.right (by assumption))), Below.drew (And.right (And.right (by assumption)))⟩ | assumption | exact form_store (by assumption)) (first | (go_at_call 91; refine (forms_any _).mono ?_; rintro e w3 ⟨rfl, hb3⟩; have J := form_step (by assumption) hb3; clear hb3) | (go_at_call 117; refine (HC.out _).mono ?_; rintro e w4 ⟨rfl, hb4⟩; have J := form_step (by assumption) hb4; clear hb4) | fail)
  all_goals
    clear a0 a1 a2 a3 a4 a5 a6 a7 a8 a9 a10 a11 a12 a13 a14 a15 ae hst
    go_wp2_with fail
    try simp only [Exit.inBlock, Exit.then]
    exact retctB (Some16.row (And.left (And.right (by assumption)))) rfl rfl rfl ⟨rfl, And.right (And.right (by assumption))⟩
set_option maxHeartbeats 1000000 in
theorem implForm_any (f : Nat → Int) (k : Int) (w : World) :
    Calls Try.prog 56 #[.agg (mk 16 f), .int .i64 k] w fun e w' => e = .returned (.tuple #[.agg (mk 16 (formR f k)), .bool (formO f k)]) ∧ Below w.heap.size w w' := by
  by_cases hV : Vd f
  · by_cases hk : 0 ≤ k ∧ k ≤ 7
    · obtain ⟨y1, y2⟩ := form_yes (f := f) ⟨hV, hk⟩
      rw [y1, y2]
      rcases eight hk.1 hk.2 with rfl | rfl | rfl | rfl | rfl | rfl | rfl | rfl
      · exact implForm_0 f w hV
      · exact implForm_1 f w hV
      · exact implForm_2 f w hV
      · exact implForm_3 f w hV
      · exact implForm_4 f w hV
      · exact implForm_5 f w hV
      · exact implForm_6 f w hV
      · exact implForm_7 f w hV
    · have z16 := zero16
      have K1 := (Blk.new w 16 f 29).alloc (.cells (mk 16 fun _ => 0) 29)
      have K2 := Blk.new (w.alloc (.cells (mk 16 f) 29)) 16 (fun _ => 0) 29
      have HB := Lib.hid (((Below.refl w.heap.size w).alloc (Nat.le_refl _) (.cells (mk 16 f) 29)).alloc (by simp) (.cells (mk 16 fun _ => 0) 29))
      simp only [World.size_alloc] at K2
      obtain ⟨y1, y2⟩ := form_no (f := f) (k := k) (fun h => hk h.2)
      rw [y1, y2]
      clear y1 y2
      have HV := Lib.hid hV
      have HK := Lib.hid (show k < 0 ∨ 7 < k by omega)
      clear hV hk
      go_enter Try.func56, Try.ntmps56
      go_wp2_with ((with_reducible show wpList _ _ _ (Oper.mk _ (Op.load 29 _) _ _ _ _ :: _) _ _); refine loadB (K1) rfl rfl rfl ?_)
      refine (implBoard_yes _ _ HV.out).mono ?_
      rintro e w1 ⟨rfl, hb2⟩
      have K1 := K1.below hb2 K1.lt
      have K2 := K2.below hb2 K2.lt
      have HB : Hid (Below w.heap.size w w1) := HB.out.trans (hb2.mono HB.out.size)
      clear hb2
      go_wp2_with fail
      refine (isForm_no _ _ HK.out).mono ?_
      rintro e w' ⟨rfl, rfl⟩
      go_wp2_with ((with_reducible show wpList _ _ _ (Oper.mk _ (Op.store 29 _ _) _ _ _ _ :: _) _ _); refine storeB (K2) rfl rfl rfl rfl ?_)
      try simp only [Exit.inBlock, Exit.then]
      exact retctB (K2.row 16 _) rfl rfl rfl ⟨rfl, below_setRow HB.out (by omega) _⟩
  · have z16 := zero16
    have K1 := (Blk.new w 16 f 29).alloc (.cells (mk 16 fun _ => 0) 29)
    have K2 := Blk.new (w.alloc (.cells (mk 16 f) 29)) 16 (fun _ => 0) 29
    have HB := Lib.hid (((Below.refl w.heap.size w).alloc (Nat.le_refl _) (.cells (mk 16 f) 29)).alloc (by simp) (.cells (mk 16 fun _ => 0) 29))
    simp only [World.size_alloc] at K2
    obtain ⟨y1, y2⟩ := form_no (f := f) (k := k) (fun h => hV h.1)
    rw [y1, y2]
    clear y1 y2
    have HV := Lib.hid hV
    clear hV
    go_enter Try.func56, Try.ntmps56
    go_wp2_with ((with_reducible show wpList _ _ _ (Oper.mk _ (Op.load 29 _) _ _ _ _ :: _) _ _); refine loadB (K1) rfl rfl rfl ?_)
    refine (implBoard_no _ _ HV.out).mono ?_
    rintro e w1 ⟨rfl, hb2⟩
    have K1 := K1.below hb2 K1.lt
    have K2 := K2.below hb2 K2.lt
    have HB : Hid (Below w.heap.size w w1) := HB.out.trans (hb2.mono HB.out.size)
    clear hb2
    go_wp2_with ((with_reducible show wpList _ _ _ (Oper.mk _ (Op.store 29 _ _) _ _ _ _ :: _) _ _); refine storeB (K2) rfl rfl rfl rfl ?_)
    try simp only [Exit.inBlock, Exit.then]
    exact retctB (K2.row 16 _) rfl rfl rfl ⟨rfl, below_setRow HB.out (by omega) _⟩
end Go.Proofs.Ytknjmkapabjolaa
