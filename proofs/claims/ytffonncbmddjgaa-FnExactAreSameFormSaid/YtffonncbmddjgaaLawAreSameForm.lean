/-
  Proved: for every two boards, the law FnExactAreSameForm returns true, and both read as they did. No condition.
-/
import Derived.Test.YtffonncbmddjgaaFirstForm
import Derived.Test.YtffonncbmddjgaaConv
import Derived.Deep.RegionHeld3
import Derived.Test.YtffonncbmddjgaaGuards
import Derived.Test.YtffonncbmddjgaaClosed
namespace Go.Proofs.Ytffonncbmddjgaa.fnExactAreSameForm
open Go.ChangeShapes Go.WideShapes Go.ChangeAt Go.RowKit Plain
attribute [local go_sem] store_new
set_option maxHeartbeats 4000000 in
set_option maxRecDepth 20000 in
theorem walk (a0 : Nat → Int) (_ : ∀ i, i < 16 → (Lit.int .i64 (a0 i)).wf = true) (a1 : Nat → Int) (_ : ∀ i, i < 16 → (Lit.int .i64 (a1 i)).wf = true) (w : World) (_ : w.ShapedOpen Try.prog) :
    Calls Try.prog 16 #[.agg (mk 16 a0), .agg (mk 16 a1)] w fun e w' => e = .returned (.bool true) ∧ Below w.heap.size w w' := by
  have z16 := zero16
  have z4 := zero4
  have z2 := zero2
  have z18 := zero18
  have K0 := Blk.new w 16 a0 83
  have K1 := Blk.new (w.alloc (.cells (mk 16 a0) 83)) 16 a1 83
  have K0 := K0.alloc (.cells (mk 16 a1) 83)
  have HB : Hid (Below w.heap.size w ((w.alloc (.cells (mk 16 a0) 83)).alloc (.cells (mk 16 a1) 83))) := by
    exact (((Below.refl w.heap.size w).alloc (Nat.le_refl _) _).alloc (by simp) _)
  simp only [World.size_alloc] at K1
  go_enter Try.func16, Try.ntmps16
  clear z16 z4 z2 z18
  go_wp2_with fail
  have S0 : Blk ((w.alloc (.cells (mk 16 a0) 83)).alloc (.cells (mk 16 a1) 83)) w.heap.size 16 a0 83 ∧ Blk ((w.alloc (.cells (mk 16 a0) 83)).alloc (.cells (mk 16 a1) 83)) (w.heap.size + 1) 16 a1 83 ∧ Below w.heap.size w ((w.alloc (.cells (mk 16 a0) 83)).alloc (.cells (mk 16 a1) 83)) := ⟨K0, K1, HB.out⟩
  clear K0 K1 HB
  generalize (w.alloc (.cells (mk 16 a0) 83)).alloc (.cells (mk 16 a1) 83) = w0 at *
  have x0 := fun (W : World) (h : Blk W w.heap.size 16 a0 83) => h.cell (i := 0) (by omega)
  have x1 := fun (W : World) (h : Blk W w.heap.size 16 a0 83) => h.cell (i := 1) (by omega)
  have x2 := fun (W : World) (h : Blk W w.heap.size 16 a0 83) => h.cell (i := 2) (by omega)
  have x3 := fun (W : World) (h : Blk W w.heap.size 16 a0 83) => h.cell (i := 3) (by omega)
  have x4 := fun (W : World) (h : Blk W w.heap.size 16 a0 83) => h.cell (i := 4) (by omega)
  have x5 := fun (W : World) (h : Blk W w.heap.size 16 a0 83) => h.cell (i := 5) (by omega)
  have x6 := fun (W : World) (h : Blk W w.heap.size 16 a0 83) => h.cell (i := 6) (by omega)
  have x7 := fun (W : World) (h : Blk W w.heap.size 16 a0 83) => h.cell (i := 7) (by omega)
  have x8 := fun (W : World) (h : Blk W w.heap.size 16 a0 83) => h.cell (i := 8) (by omega)
  have x9 := fun (W : World) (h : Blk W w.heap.size 16 a0 83) => h.cell (i := 9) (by omega)
  have x10 := fun (W : World) (h : Blk W w.heap.size 16 a0 83) => h.cell (i := 10) (by omega)
  have x11 := fun (W : World) (h : Blk W w.heap.size 16 a0 83) => h.cell (i := 11) (by omega)
  have x12 := fun (W : World) (h : Blk W w.heap.size 16 a0 83) => h.cell (i := 12) (by omega)
  have x13 := fun (W : World) (h : Blk W w.heap.size 16 a0 83) => h.cell (i := 13) (by omega)
  have x14 := fun (W : World) (h : Blk W w.heap.size 16 a0 83) => h.cell (i := 14) (by omega)
  have x15 := fun (W : World) (h : Blk W w.heap.size 16 a0 83) => h.cell (i := 15) (by omega)
  have xe : (#[.int .i64 (a0 0), .int .i64 (a0 1), .int .i64 (a0 2), .int .i64 (a0 3), .int .i64 (a0 4), .int .i64 (a0 5), .int .i64 (a0 6), .int .i64 (a0 7), .int .i64 (a0 8), .int .i64 (a0 9), .int .i64 (a0 10), .int .i64 (a0 11), .int .i64 (a0 12), .int .i64 (a0 13), .int .i64 (a0 14), .int .i64 (a0 15)] : Array Value) = mk 16 a0 := rfl
  have y0 := fun (W : World) (h : Blk W (w.heap.size + 1) 16 a1 83) => h.cell (i := 0) (by omega)
  have y1 := fun (W : World) (h : Blk W (w.heap.size + 1) 16 a1 83) => h.cell (i := 1) (by omega)
  have y2 := fun (W : World) (h : Blk W (w.heap.size + 1) 16 a1 83) => h.cell (i := 2) (by omega)
  have y3 := fun (W : World) (h : Blk W (w.heap.size + 1) 16 a1 83) => h.cell (i := 3) (by omega)
  have y4 := fun (W : World) (h : Blk W (w.heap.size + 1) 16 a1 83) => h.cell (i := 4) (by omega)
  have y5 := fun (W : World) (h : Blk W (w.heap.size + 1) 16 a1 83) => h.cell (i := 5) (by omega)
  have y6 := fun (W : World) (h : Blk W (w.heap.size + 1) 16 a1 83) => h.cell (i := 6) (by omega)
  have y7 := fun (W : World) (h : Blk W (w.heap.size + 1) 16 a1 83) => h.cell (i := 7) (by omega)
  have y8 := fun (W : World) (h : Blk W (w.heap.size + 1) 16 a1 83) => h.cell (i := 8) (by omega)
  have y9 := fun (W : World) (h : Blk W (w.heap.size + 1) 16 a1 83) => h.cell (i := 9) (by omega)
  have y10 := fun (W : World) (h : Blk W (w.heap.size + 1) 16 a1 83) => h.cell (i := 10) (by omega)
  have y11 := fun (W : World) (h : Blk W (w.heap.size + 1) 16 a1 83) => h.cell (i := 11) (by omega)
  have y12 := fun (W : World) (h : Blk W (w.heap.size + 1) 16 a1 83) => h.cell (i := 12) (by omega)
  have y13 := fun (W : World) (h : Blk W (w.heap.size + 1) 16 a1 83) => h.cell (i := 13) (by omega)
  have y14 := fun (W : World) (h : Blk W (w.heap.size + 1) 16 a1 83) => h.cell (i := 14) (by omega)
  have y15 := fun (W : World) (h : Blk W (w.heap.size + 1) 16 a1 83) => h.cell (i := 15) (by omega)
  have ye : (#[.int .i64 (a1 0), .int .i64 (a1 1), .int .i64 (a1 2), .int .i64 (a1 3), .int .i64 (a1 4), .int .i64 (a1 5), .int .i64 (a1 6), .int .i64 (a1 7), .int .i64 (a1 8), .int .i64 (a1 9), .int .i64 (a1 10), .int .i64 (a1 11), .int .i64 (a1 12), .int .i64 (a1 13), .int .i64 (a1 14), .int .i64 (a1 15)] : Array Value) = mk 16 a1 := rfl
  obtain ⟨L, hL⟩ : ∃ L, L = sfmR a0 a1 := ⟨_, rfl⟩
  obtain ⟨O, hO⟩ : ∃ O, O = lessO a0 a1 := ⟨_, rfl⟩
  have specL : ∀ W, Calls Try.prog 52 #[.agg (mk 16 a0), .agg (mk 16 a1)] W fun e w' => e = .returned (.tuple #[.bool L, .bool O]) ∧ Below W.heap.size W w' := by rw [hL, hO]; exact specSame_any a0 a1
  have implL : ∀ W, Calls Try.prog 51 #[.agg (mk 16 a0), .agg (mk 16 a1)] W fun e w' => e = .returned (.tuple #[.bool L, .bool O]) ∧ Below W.heap.size W w' := by rw [hL, hO]; exact implSame_any a0 a1
  have SL := Lib.hid specL
  have IL := Lib.hid implL
  clear specL implL hL hO
  go_region_held3 (fun w' => Blk w' w.heap.size 16 a0 83 ∧ Blk w' (w.heap.size + 1) 16 a1 83 ∧ Below w.heap.size w w') (first | exact ⟨Blk.drew (And.left (by assumption)), Blk.drew (And.left (And.right (by assumption))), Below.drew (And.right (And.right (by assumption)))⟩ | assumption) (first | (go_at_call 94; (first | (with_reducible refine (toBoard_any a0 _).mono ?_) | (with_reducible refine (toBoard_any a1 _).mono ?_)); rintro e w6 ⟨rfl, hb6⟩; have J := heldL_step (by assumption) hb6; clear hb6) | (go_at_call 52; refine (Hid.out SL _).mono ?_; rintro e w7 ⟨rfl, hb7⟩; have J := heldL_step (by assumption) hb7; clear hb7) | fail)
  all_goals
    go_wp2_with fail
    go_region_held3 (fun w' => Blk w' w.heap.size 16 a0 83 ∧ Blk w' (w.heap.size + 1) 16 a1 83 ∧ Below w.heap.size w w') (first | exact ⟨Blk.drew (And.left (by assumption)), Blk.drew (And.left (And.right (by assumption))), Below.drew (And.right (And.right (by assumption)))⟩ | assumption) (first | (go_at_call 94; (first | (with_reducible refine (toBoard_any a0 _).mono ?_) | (with_reducible refine (toBoard_any a1 _).mono ?_)); rintro e w6 ⟨rfl, hb6⟩; have J := heldL_step (by assumption) hb6; clear hb6) | (go_at_call 51; refine (Hid.out IL _).mono ?_; rintro e w7 ⟨rfl, hb7⟩; have J := heldL_step (by assumption) hb7; clear hb7) | fail)
  all_goals
    go_wp2_with fail
    go_ret
    exact ⟨rfl, And.right (And.right (by assumption))⟩

noncomputable def laidWorld (os : Os) : World := World.holding Try.prog os ⟨#[], #[], []⟩
theorem laid_met (os : Os) : laidMet Try.prog Rows.fnExactAreSameFormRow.laid ((laidWorld os).forCall (fun _ _ => 0) ⟨#[], #[.agg #[.int .i64 0, .int .i64 0, .int .i64 0, .int .i64 0, .int .i64 0, .int .i64 0, .int .i64 0, .int .i64 0, .int .i64 0, .int .i64 0, .int .i64 0, .int .i64 0, .int .i64 0, .int .i64 0, .int .i64 0, .int .i64 0], .agg #[.int .i64 0, .int .i64 0, .int .i64 0, .int .i64 0, .int .i64 0, .int .i64 0, .int .i64 0, .int .i64 0, .int .i64 0, .int .i64 0, .int .i64 0, .int .i64 0, .int .i64 0, .int .i64 0, .int .i64 0, .int .i64 0]], []⟩).memory := laidMet_of_run' 8 (by kernel_rfl) (by kernel_rfl)
theorem reads (os : Os) {H : Type} (enc : TypeId × Value → H) : ∃ places, DataW.whole enc Try.prog ((laidWorld os).forCall (fun _ _ => 0) ⟨#[], #[.agg #[.int .i64 0, .int .i64 0, .int .i64 0, .int .i64 0, .int .i64 0, .int .i64 0, .int .i64 0, .int .i64 0, .int .i64 0, .int .i64 0, .int .i64 0, .int .i64 0, .int .i64 0, .int .i64 0, .int .i64 0, .int .i64 0], .agg #[.int .i64 0, .int .i64 0, .int .i64 0, .int .i64 0, .int .i64 0, .int .i64 0, .int .i64 0, .int .i64 0, .int .i64 0, .int .i64 0, .int .i64 0, .int .i64 0, .int .i64 0, .int .i64 0, .int .i64 0, .int .i64 0]], []⟩).memory Try.f16.params.toList Rows.fnExactAreSameFormSpec.vars false #[.agg #[.int .i64 0, .int .i64 0, .int .i64 0, .int .i64 0, .int .i64 0, .int .i64 0, .int .i64 0, .int .i64 0, .int .i64 0, .int .i64 0, .int .i64 0, .int .i64 0, .int .i64 0, .int .i64 0, .int .i64 0, .int .i64 0], .agg #[.int .i64 0, .int .i64 0, .int .i64 0, .int .i64 0, .int .i64 0, .int .i64 0, .int .i64 0, .int .i64 0, .int .i64 0, .int .i64 0, .int .i64 0, .int .i64 0, .int .i64 0, .int .i64 0, .int .i64 0, .int .i64 0]].toList 8 = some ([.agg [.agg [.agg [.lit (.int .i64 0), .lit (.int .i64 0), .lit (.int .i64 0), .lit (.int .i64 0)], .agg [.lit (.int .i64 0), .lit (.int .i64 0), .lit (.int .i64 0), .lit (.int .i64 0)], .agg [.lit (.int .i64 0), .lit (.int .i64 0), .lit (.int .i64 0), .lit (.int .i64 0)], .agg [.lit (.int .i64 0), .lit (.int .i64 0), .lit (.int .i64 0), .lit (.int .i64 0)]]], .agg [.agg [.agg [.lit (.int .i64 0), .lit (.int .i64 0), .lit (.int .i64 0), .lit (.int .i64 0)], .agg [.lit (.int .i64 0), .lit (.int .i64 0), .lit (.int .i64 0), .lit (.int .i64 0)], .agg [.lit (.int .i64 0), .lit (.int .i64 0), .lit (.int .i64 0), .lit (.int .i64 0)], .agg [.lit (.int .i64 0), .lit (.int .i64 0), .lit (.int .i64 0), .lit (.int .i64 0)]]]], [], places) :=
  ⟨[], by kernel_rfl⟩
set_option linter.unusedVariables false in
set_option maxRecDepth 100000 in
theorem lifted (os : Os) (started : os.Started) (H : Type) (enc : TypeId × Value → H) (F : Stop.Interp) :
    ReturnsInHanded {} Try.checked os 16 .any ((OpenSpec.ofChange Rows.fnExactAreSameFormSpec).preRow enc Try.prog Try.f16 Rows.fnExactAreSameFormRow.domain false Rows.fnExactAreSameFormRow.laid) (((OpenSpec.ofChange Rows.fnExactAreSameFormSpec).at F).post enc Try.prog Try.f16 false true false false) := by
  obtain ⟨places, hx⟩ := reads os enc
  refine returnsInHanded_of_row (C := Try.checked) (s := (OpenSpec.ofChange Rows.fnExactAreSameFormSpec)) own started (by kernel_rfl) Try.func16
    (witness_row_at (enc := enc) (C := Try.checked) false (laidWorld os) #[.agg #[.int .i64 0, .int .i64 0, .int .i64 0, .int .i64 0, .int .i64 0, .int .i64 0, .int .i64 0, .int .i64 0, .int .i64 0, .int .i64 0, .int .i64 0, .int .i64 0, .int .i64 0, .int .i64 0, .int .i64 0, .int .i64 0], .agg #[.int .i64 0, .int .i64 0, .int .i64 0, .int .i64 0, .int .i64 0, .int .i64 0, .int .i64 0, .int .i64 0, .int .i64 0, .int .i64 0, .int .i64 0, .int .i64 0, .int .i64 0, .int .i64 0, .int .i64 0, .int .i64 0]] rfl (by kernel_rfl) (by kernel_rfl) (by kernel_rfl)
      (OpenSpec.preRow_of_cond 8 hx (by kernel_rfl) (fun k hk => by cases hk) (by kernel_rfl) (laid_met os))) ?_
  intro W base args ds gs before hval0 hW _ hcond hsz hL hsh _
  have hval : ∀ (j : Nat) t v, Try.f16.params[j]? = some t → args[j]? = some v → Value.okWide Try.prog W .any base t v := hval0
  have hW' := hW
  obtain ⟨p, q, hA0, hV, rfl, hfz, hnd⟩ := hW
  have hA : DataW.TrodAll enc Try.prog W 0 (fun _ => true) true Try.f16.params.toList args.toList ds p := hA0
  rw [Try.params16] at hA hval
  obtain ⟨v0, vs0, d0, ds0, p0, q0, hargs, rfl, rfl, h0, r0⟩ := trodAll_cons hA
  obtain ⟨v1, vs1, d1, ds1, p1, q1, rfl, rfl, rfl, h1, r1⟩ := trodAll_cons r0
  obtain ⟨rfl, rfl, rfl⟩ := trodAll_nil r1
  obtain rfl : args = #[v0, v1] := by cases args; simp_all
  obtain ⟨rfl, rfl⟩ := trodVars_none hV
  obtain ⟨a0, rfl, w0⟩ := open_board_at Try.underlying83 rfl rfl Try.underlying25 Try.underlying24 Try.underlying3 cellsK cellsG cellsR cellsI (hval 0 83 v0 rfl rfl) h0
  have k0 := h0
  have lt0 : ∀ x ∈ p0, x.block < W.heap.size := by obtain ⟨m, hm⟩ := k0; exact DataW.trod_lt m _ _ _ hm
  obtain ⟨a1, rfl, w1⟩ := open_board_at Try.underlying83 rfl rfl Try.underlying25 Try.underlying24 Try.underlying3 cellsK cellsG cellsR cellsI (hval 1 83 v1 rfl rfl) h1
  have k1 := h1
  have lt1 : ∀ x ∈ p1, x.block < W.heap.size := by obtain ⟨m, hm⟩ := k1; exact DataW.trod_lt m _ _ _ hm
  clear hA0 hval0
  have hwalk : Calls Try.prog 16 #[.agg (mk 16 a0), .agg (mk 16 a1)] W fun e w' => e = .returned (.bool true) ∧ Below W.heap.size W w' := walk a0 w0 a1 w1 W hsh
  refine hwalk.mono fun e W' ⟨he, bel⟩ => ?_
  subst he
  exact ⟨_, rfl, _, _, _, [], _, [], hW', trodAll_mk1 (shut_bool Try.underlying4 _), (trodAll_cons_mk (Below.trod laidOut (by kernel_rfl) (of_decide_eq_true (by kernel_rfl)) k0 bel lt0) (trodAll_cons_mk (Below.trod laidOut (by kernel_rfl) (of_decide_eq_true (by kernel_rfl)) k1 bel lt1) trodAll_mk0)), rfl, bel.frame _, fun h => by cases h⟩
theorem closed : joinedFacts Try.pinned.checked.prog 16 Try.f16 ((OpenSpec.ofChange Rows.fnExactAreSameFormSpec)).bare Rows.fnExactAreSameFormRow = true := by
  unfold joinedFacts
  repeat' with_reducible refine and_mk ?_ ?_
  case refine_1.refine_1.refine_1.refine_1.refine_1.refine_1.refine_2 => exact enters
  case refine_1.refine_1.refine_1.refine_1.refine_1.refine_2 => exact (show (Rows.fnExactAreSameFormRow.lifted == Try.prog.liftsFinal) = true by rw [final_no]; rfl)
  case refine_1.refine_1.refine_1.refine_1.refine_2 => exact (show (Try.prog.make == some Rows.fnExactAreSameFormRow.make) = true by rw [make_cut]; rfl)
  case refine_1.refine_1.refine_1.refine_1.refine_1.refine_1.refine_1.refine_1.refine_1.refine_1.refine_1.refine_1.refine_1.refine_1.refine_1.refine_1.refine_1.refine_1.refine_1.refine_1.refine_1.refine_1.refine_1.refine_1.refine_1.refine_1.refine_1.refine_1.refine_1.refine_1.refine_2 => exact laidOut
  case refine_1.refine_1.refine_1.refine_1.refine_1.refine_1.refine_1.refine_1.refine_1.refine_1.refine_1.refine_1.refine_1.refine_1.refine_1.refine_1.refine_1.refine_1.refine_1.refine_1.refine_1.refine_1.refine_1.refine_1.refine_1.refine_1.refine_1.refine_1.refine_1.refine_2 => exact maps_rowed
  case refine_1.refine_1.refine_1.refine_1.refine_1.refine_1.refine_1.refine_2 => exact stops_heard
  all_goals (as_aux_lemma => kernel_rfl)
theorem proved : Rows.FnExactAreSameFormSaid :=
  OpenClaim.holds_of_cond 16 Try.f16 rfl rfl rfl rfl rfl rfl rfl ⟨rfl, rfl, rfl, rfl, rfl⟩ rfl rfl rfl rfl rfl (by kernel_rfl) Try.func16 closed
    (of_decide_eq_true (by kernel_rfl)) (by unfold Func.isWrapper; first | (rw [if_pos (by decide +kernel)]; kernel_rfl) | (rw [if_neg (by decide +kernel)]; exact ⟨rfl, rfl⟩))
    (fun os started H enc _ F => by rw [OpenClaim.pre_eq_preRow]; exact lifted os started H enc F)
#print axioms proved
end Go.Proofs.Ytffonncbmddjgaa.fnExactAreSameForm
