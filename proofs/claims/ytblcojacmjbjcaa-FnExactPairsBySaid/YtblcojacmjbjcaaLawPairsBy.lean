/-
  Proved: for every number, the law FnExactPairsBy returns true, and the number reads as it did. No condition.
-/
import Derived.Test.YtblcojacmjbjcaaRulePr
import Derived.Test.YtblcojacmjbjcaaRowsKit
import Derived.Test.YtblcojacmjbjcaaBaseA
import Derived.Test.YtblcojacmjbjcaaClosed
namespace Go.Proofs.Ytblcojacmjbjcaa.fnExactPairsBy
open Go.ChangeShapes Go.WideShapes Go.ChangeAt Go.RowKit Plain
attribute [local go_sem] store_new

theorem below2 {w a b : World} (h : Below w.heap.size w a) (k : Below a.heap.size a b) : Below w.heap.size w b := h.trans (k.mono h.size)
set_option maxHeartbeats 1000000 in
set_option maxRecDepth 20000 in
theorem walk (a0 : Int) (_ : (Lit.int .i64 a0).wf = true) (w : World) (_ : w.ShapedOpen Try.prog) :
    Calls Try.prog 5 #[.int .i64 a0] w fun e w' => e = .returned (.bool true) ∧ Below w.heap.size w w' := by
  have HB : Hid (Below w.heap.size w w) := Below.refl _ _
  have hn := prC_le a0
  have HM : Hid ((prR a0).map (Value.int .i64) = (mk (prC a0 * 2) fun i => (prR a0).getD i 0).toList) := by
    show _ = _
    rw [ints_mk, prR_len]
  go_enter Try.func5, Try.ntmps5
  go_wp2_with fail
  refine (specPairsBy_any a0 _).mono ?_
  rintro e w2 ⟨g1, c1, rfl, ho, hb⟩
  unfold OwnsCells at ho
  rw [HM.out] at ho
  have R1 := Lib.hid (CRow.of_own ho)
  have HB : Hid (Below w.heap.size w w2) := below2 HB.out hb
  clear hb ho
  go_wp2_with fail
  refine (implPairsBy_any a0 _).mono ?_
  rintro e w4 ⟨g2, c2, rfl, ho, hb⟩
  unfold OwnsCells at ho
  rw [HM.out] at ho
  have B : Hid (Below w2.heap.size w2 w4) := hb
  have HO := Lib.hid ho
  clear hb ho
  generalize hok : decide (RlOk a0) = ok at *
  generalize hN : prC a0 = n at *
  generalize hH : (fun i => (prR a0).getD i 0) = h at *
  go_wp2_with fail
  refine (eqC_yes _ _ n h _ (CRow.of_own HO.out) (R1.out.below B.out) (by omega)).mono ?_
  rintro e w6 ⟨rfl, hb⟩
  have HO : Hid (w6.ownsRow w2.heap.size 66 2 (.slice (some ⟨g2, 0, none⟩) n c2) n (mk (n * 2) h).toList) := owns_below HO.out hb
  have B : Hid (Below w2.heap.size w2 w6) := below2 B.out hb
  clear hb
  cases ok <;> (
  go_wp2_with fail
  refine (markC_row g2 c2 n w2.heap.size h _ HO.out (by omega)).mono ?_
  rintro e w7 ⟨rfl, ho, hb⟩
  have R2 := Lib.hid (CRow.of_own ho)
  have B : Hid (Below w2.heap.size w2 w7) := B.out.trans hb
  clear ho hb HO
  go_wp2_with fail
  refine (heldC_row _ n _ R2.out (by omega)).mono ?_
  rintro e w8 ⟨rfl, rfl⟩
  go_wp2_with fail
  refine (implPairsBy_any a0 _).mono ?_
  rintro e w10 ⟨g3, c3, rfl, ho, hb⟩
  unfold OwnsCells at ho
  rw [HM.out, hN] at ho
  rw [hN]
  have R3 := Lib.hid (CRow.of_own ho)
  have R2 := Lib.hid (R2.out.below hb)
  have B : Hid (Below w2.heap.size w2 w10) := below2 B.out hb
  clear hb ho
  rw [hok]
  go_wp2_with fail
  refine (eqC_yes _ _ n h _ R3.out (R1.out.below B.out) (by omega)).mono ?_
  rintro e w12 ⟨rfl, hb⟩
  have R2 := Lib.hid (R2.out.below hb)
  have B : Hid (Below w2.heap.size w2 w12) := below2 B.out hb
  clear hb
  go_wp2_with fail
  refine (heldC_row _ n _ R2.out (by omega)).mono ?_
  rintro e w13 ⟨rfl, rfl⟩
  have HB : Hid (Below w.heap.size w w12) := below2 HB.out B.out
  go_wp2_with fail
  go_ret
  exact ⟨rfl, HB.out⟩)

noncomputable def laidWorld (os : Os) : World := World.holding Try.prog os ⟨#[], #[], []⟩
theorem laid_met (os : Os) : laidMet Try.prog Rows.fnExactPairsByRow.laid ((laidWorld os).forCall (fun _ _ => 0) ⟨#[], #[.int .i64 0], []⟩).memory := laidMet_of_run' 8 (by kernel_rfl) (by kernel_rfl)
theorem reads (os : Os) {H : Type} (enc : TypeId × Value → H) : ∃ places, DataW.whole enc Try.prog ((laidWorld os).forCall (fun _ _ => 0) ⟨#[], #[.int .i64 0], []⟩).memory Try.f5.params.toList Rows.fnExactPairsBySpec.vars false #[.int .i64 0].toList 8 = some ([.lit (.int .i64 0)], [], places) :=
  ⟨[], by kernel_rfl⟩
set_option linter.unusedVariables false in
set_option maxRecDepth 100000 in
theorem lifted (os : Os) (started : os.Started) (H : Type) (enc : TypeId × Value → H) (F : Stop.Interp) :
    ReturnsInHanded {} Try.checked os 5 .any ((OpenSpec.ofChange Rows.fnExactPairsBySpec).preRow enc Try.prog Try.f5 Rows.fnExactPairsByRow.domain false Rows.fnExactPairsByRow.laid) (((OpenSpec.ofChange Rows.fnExactPairsBySpec).at F).post enc Try.prog Try.f5 false true false false) := by
  obtain ⟨places, hx⟩ := reads os enc
  refine returnsInHanded_of_row (C := Try.checked) (s := (OpenSpec.ofChange Rows.fnExactPairsBySpec)) own started (by kernel_rfl) Try.func5
    (witness_row_at (enc := enc) (C := Try.checked) false (laidWorld os) #[.int .i64 0] rfl (by kernel_rfl) (by kernel_rfl) (by kernel_rfl)
      (OpenSpec.preRow_of_cond 8 hx (by kernel_rfl) (fun k hk => by cases hk) (by kernel_rfl) (laid_met os))) ?_
  intro W base args ds gs before hval0 hW _ hcond hsz hL hsh _
  have hval : ∀ (j : Nat) t v, Try.f5.params[j]? = some t → args[j]? = some v → Value.okWide Try.prog W .any base t v := hval0
  have hW' := hW
  obtain ⟨p, q, hA0, hV, rfl, hfz, hnd⟩ := hW
  have hA : DataW.TrodAll enc Try.prog W 0 (fun _ => true) true Try.f5.params.toList args.toList ds p := hA0
  rw [Try.params5] at hA hval
  obtain ⟨v0, vs0, d0, ds0, p0, q0, hargs, rfl, rfl, h0, r0⟩ := trodAll_cons hA
  obtain ⟨rfl, rfl, rfl⟩ := trodAll_nil r0
  obtain rfl : args = #[v0] := by cases args; simp_all
  obtain ⟨rfl, rfl⟩ := trodVars_none hV
  obtain ⟨a0, rfl, rfl, rfl, w0⟩ := open_int Try.underlying3 (hval 0 3 v0 rfl rfl) h0
  clear hA0 hval0
  have hwalk : Calls Try.prog 5 #[.int .i64 a0] W fun e w' => e = .returned (.bool true) ∧ Below W.heap.size W w' := walk a0 w0 W hsh
  refine hwalk.mono fun e W' ⟨he, bel⟩ => ?_
  subst he
  exact ⟨_, rfl, _, _, _, [], _, [], hW', trodAll_mk1 (shut_bool Try.underlying4 _), (trodAll_cons_mk (shut_int Try.underlying3 w0) trodAll_mk0), rfl, bel.frame _, fun h => by cases h⟩
set_option maxHeartbeats 8000000 in
theorem closed : joinedFacts Try.pinned.checked.prog 5 Try.f5 ((OpenSpec.ofChange Rows.fnExactPairsBySpec)).bare Rows.fnExactPairsByRow = true := by
  unfold joinedFacts
  repeat' with_reducible refine and_mk ?_ ?_
  case refine_1.refine_1.refine_1.refine_1.refine_1.refine_1.refine_2 => exact enters
  case refine_1.refine_1.refine_1.refine_1.refine_1.refine_2 => exact (show (Rows.fnExactPairsByRow.lifted == Try.prog.liftsFinal) = true by rw [final_no]; rfl)
  case refine_1.refine_1.refine_1.refine_1.refine_2 => exact (show (Try.prog.make == some Rows.fnExactPairsByRow.make) = true by rw [make_cut]; rfl)
  case refine_1.refine_1.refine_1.refine_1.refine_1.refine_1.refine_1.refine_1.refine_1.refine_1.refine_1.refine_1.refine_1.refine_1.refine_1.refine_1.refine_1.refine_1.refine_1.refine_1.refine_1.refine_1.refine_1.refine_1.refine_1.refine_1.refine_1.refine_1.refine_1.refine_1.refine_2 => exact laidOut
  case refine_1.refine_1.refine_1.refine_1.refine_1.refine_1.refine_1.refine_1.refine_1.refine_1.refine_1.refine_1.refine_1.refine_1.refine_1.refine_1.refine_1.refine_1.refine_1.refine_1.refine_1.refine_1.refine_1.refine_1.refine_1.refine_1.refine_1.refine_1.refine_1.refine_2 => exact maps_rowed
  case refine_1.refine_1.refine_1.refine_1.refine_1.refine_1.refine_1.refine_2 => exact stops_heard
  all_goals (as_aux_lemma => kernel_rfl)
theorem proved : Rows.FnExactPairsBySaid :=
  OpenClaim.holds_of_cond 5 Try.f5 rfl rfl rfl rfl rfl rfl rfl ⟨rfl, rfl, rfl, rfl, rfl⟩ rfl rfl rfl rfl rfl (by kernel_rfl) Try.func5 closed
    (of_decide_eq_true (by kernel_rfl)) (by unfold Func.isWrapper; first | (rw [if_pos (by decide +kernel)]; kernel_rfl) | (rw [if_neg (by decide +kernel)]; exact ⟨rfl, rfl⟩))
    (fun os started H enc _ F => by rw [OpenClaim.pre_eq_preRow]; exact lifted os started H enc F)
#print axioms proved
end Go.Proofs.Ytblcojacmjbjcaa.fnExactPairsBy
