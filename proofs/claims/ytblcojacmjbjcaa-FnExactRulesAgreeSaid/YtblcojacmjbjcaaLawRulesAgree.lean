/-
  Proved: for every board and every number, the law FnExactRulesAgree returns true, and the board reads as it did. No condition.
-/
import Derived.Test.YtblcojacmjbjcaaRuleAgr
import Derived.Test.YtblcojacmjbjcaaRowsKit
import Derived.Test.YtblcojacmjbjcaaBaseA
import Derived.Test.YtblcojacmjbjcaaClosed
namespace Go.Proofs.Ytblcojacmjbjcaa.fnExactRulesAgree
open Go.ChangeShapes Go.WideShapes Go.ChangeAt Go.RowKit Plain
attribute [local go_sem] store_new

theorem below3 {w a b : World} (h : Below w.heap.size w a) (k : Below a.heap.size a b) : Below w.heap.size w b := h.trans (k.mono h.size)
theorem drew_below (w : World) (n : Nat) : Below w.heap.size w (w.drewN n) := ⟨rfl, rfl, rfl, Nat.le_refl _, fun _ _ => rfl⟩
set_option maxHeartbeats 1000000 in
set_option maxRecDepth 20000 in
theorem walk (a0 : Nat → Int) (_ : ∀ i, i < 16 → (Lit.int .i64 (a0 i)).wf = true) (a1 : Int) (_ : (Lit.int .i64 a1).wf = true) (w : World) (_ : w.ShapedOpen Try.prog) :
    Calls Try.prog 10 #[.agg (mk 16 a0), .int .i64 a1] w fun e w' => e = .returned (.bool true) ∧ Below w.heap.size w w' := by
  have K0 := Blk.new w 16 a0 36
  have HB : Hid (Below w.heap.size w (w.alloc (.cells (mk 16 a0) 36))) := by
    exact ((Below.refl w.heap.size w).alloc (Nat.le_refl _) _)
  have hn : (rAR a0 a1).length ≤ 4 := by
    by_cases hV : SlideOk a0 a1
    · rw [rAR_yes hV]; exact rAg_le _ _ _
    · rw [rAR_no hV]; exact Nat.zero_le _
  have HM := Lib.hid (ints_mk (rAR a0 a1))
  go_enter Try.func10, Try.ntmps10
  go_wp2_with (first | ((with_reducible show wpList _ _ _ (Oper.mk _ (Op.load 36 _) _ _ _ _ :: _) _ _); refine loadK (K0) rfl rfl rfl ?_))
  refine (toBoard_any _ _).mono ?_
  rintro e w1 ⟨rfl, hb⟩
  have K0 := K0.below hb K0.lt
  have HB : Hid (Below w.heap.size w w1) := below3 HB.out hb
  clear hb
  go_wp2_with fail
  refine (specAgree_any a0 a1 _).mono ?_
  rintro e w2 ⟨g1, c1, rfl, ho, hb⟩
  unfold OwnsInts at ho
  rw [HM.out] at ho
  have R1 := Lib.hid (IRow.of_own ho)
  have K0 := K0.below hb K0.lt
  have HB : Hid (Below w.heap.size w w2) := below3 HB.out hb
  clear hb ho
  go_wp2_with (first | ((with_reducible show wpList _ _ _ (Oper.mk _ (Op.load 36 _) _ _ _ _ :: _) _ _); refine loadK (K0) rfl rfl rfl ?_))
  refine (toBoard_any _ _).mono ?_
  rintro e w3 ⟨rfl, hb⟩
  have K0 := K0.below hb K0.lt
  have HB : Hid (Below w.heap.size w w3) := below3 HB.out hb
  have R1 := Lib.hid (R1.out.below hb)
  clear hb
  go_wp2_with fail
  refine (implAgree_any a0 a1 _).mono ?_
  rintro e w4 ⟨g2, c2, rfl, ho, hb⟩
  unfold OwnsInts at ho
  rw [HM.out] at ho
  have B : Hid (Below w3.heap.size w3 w4) := hb
  have HO := Lib.hid ho
  clear hb ho
  generalize hok : slideRO a0 a1 = ok at *
  generalize hN : (rAR a0 a1).length = n at *
  generalize hH : (fun i => (rAR a0 a1).getD i 0) = h at *
  go_wp2_with fail
  refine (eqI_yes _ _ n h _ (IRow.of_own HO.out) (R1.out.below B.out) (by omega)).mono ?_
  rintro e w5 ⟨rfl, k, rfl⟩
  have HO : Hid ((w4.drewN k).ownsRow w3.heap.size 3 1 (.slice (some ⟨g2, 0, none⟩) n c2) n (mk n h).toList) := owns_below HO.out (drew_below _ k)
  have B : Hid (Below w3.heap.size w3 (w4.drewN k)) := below3 B.out (drew_below _ k)
  generalize w4.drewN k = w6 at *
  cases ok <;> (
  go_wp2_with fail
  refine (markI_row g2 c2 n w3.heap.size h _ HO.out (by omega)).mono ?_
  rintro e w7 ⟨rfl, ho, hb⟩
  have R2 := Lib.hid (IRow.of_own ho)
  have B : Hid (Below w3.heap.size w3 w7) := B.out.trans hb
  clear ho hb HO
  go_wp2_with fail
  refine (heldI_row _ n _ R2.out (by omega)).mono ?_
  rintro e w8 ⟨rfl, rfl⟩
  have K0' := K0.below B.out K0.lt
  go_wp2_with (first | ((with_reducible show wpList _ _ _ (Oper.mk _ (Op.load 36 _) _ _ _ _ :: _) _ _); refine loadK (K0') rfl rfl rfl ?_))
  refine (toBoard_any _ _).mono ?_
  rintro e w9 ⟨rfl, hb⟩
  have R2 := Lib.hid (R2.out.below hb)
  have B : Hid (Below w3.heap.size w3 w9) := below3 B.out hb
  clear hb K0'
  go_wp2_with fail
  refine (implAgree_any a0 a1 _).mono ?_
  rintro e w10 ⟨g3, c3, rfl, ho, hb⟩
  unfold OwnsInts at ho
  rw [HM.out, hN] at ho
  rw [hN]
  have R3 := Lib.hid (IRow.of_own ho)
  have R2 := Lib.hid (R2.out.below hb)
  have B : Hid (Below w3.heap.size w3 w10) := below3 B.out hb
  clear hb ho
  rw [hok]
  go_wp2_with fail
  refine (eqI_yes _ _ n h _ R3.out (R1.out.below B.out) (by omega)).mono ?_
  rintro e w11 ⟨rfl, k2, rfl⟩
  have R2 := Lib.hid (R2.out.below (drew_below _ k2))
  have B : Hid (Below w3.heap.size w3 (w10.drewN k2)) := below3 B.out (drew_below _ k2)
  generalize w10.drewN k2 = w12 at *
  go_wp2_with fail
  refine (heldI_row _ n _ R2.out (by omega)).mono ?_
  rintro e w13 ⟨rfl, rfl⟩
  have HB : Hid (Below w.heap.size w w12) := below3 HB.out B.out
  go_wp2_with fail
  go_ret
  exact ⟨rfl, HB.out⟩)

noncomputable def laidWorld (os : Os) : World := World.holding Try.prog os ⟨#[], #[], []⟩
theorem laid_met (os : Os) : laidMet Try.prog Rows.fnExactRulesAgreeRow.laid ((laidWorld os).forCall (fun _ _ => 0) ⟨#[], #[.agg #[.int .i64 0, .int .i64 0, .int .i64 0, .int .i64 0, .int .i64 0, .int .i64 0, .int .i64 0, .int .i64 0, .int .i64 0, .int .i64 0, .int .i64 0, .int .i64 0, .int .i64 0, .int .i64 0, .int .i64 0, .int .i64 0], .int .i64 0], []⟩).memory := laidMet_of_run' 8 (by kernel_rfl) (by kernel_rfl)
theorem reads (os : Os) {H : Type} (enc : TypeId × Value → H) : ∃ places, DataW.whole enc Try.prog ((laidWorld os).forCall (fun _ _ => 0) ⟨#[], #[.agg #[.int .i64 0, .int .i64 0, .int .i64 0, .int .i64 0, .int .i64 0, .int .i64 0, .int .i64 0, .int .i64 0, .int .i64 0, .int .i64 0, .int .i64 0, .int .i64 0, .int .i64 0, .int .i64 0, .int .i64 0, .int .i64 0], .int .i64 0], []⟩).memory Try.f10.params.toList Rows.fnExactRulesAgreeSpec.vars false #[.agg #[.int .i64 0, .int .i64 0, .int .i64 0, .int .i64 0, .int .i64 0, .int .i64 0, .int .i64 0, .int .i64 0, .int .i64 0, .int .i64 0, .int .i64 0, .int .i64 0, .int .i64 0, .int .i64 0, .int .i64 0, .int .i64 0], .int .i64 0].toList 8 = some ([.agg [.agg [.agg [.lit (.int .i64 0), .lit (.int .i64 0), .lit (.int .i64 0), .lit (.int .i64 0)], .agg [.lit (.int .i64 0), .lit (.int .i64 0), .lit (.int .i64 0), .lit (.int .i64 0)], .agg [.lit (.int .i64 0), .lit (.int .i64 0), .lit (.int .i64 0), .lit (.int .i64 0)], .agg [.lit (.int .i64 0), .lit (.int .i64 0), .lit (.int .i64 0), .lit (.int .i64 0)]]], .lit (.int .i64 0)], [], places) :=
  ⟨[], by kernel_rfl⟩
set_option linter.unusedVariables false in
set_option maxRecDepth 100000 in
theorem lifted (os : Os) (started : os.Started) (H : Type) (enc : TypeId × Value → H) (F : Stop.Interp) :
    ReturnsInHanded {} Try.checked os 10 .any ((OpenSpec.ofChange Rows.fnExactRulesAgreeSpec).preRow enc Try.prog Try.f10 Rows.fnExactRulesAgreeRow.domain false Rows.fnExactRulesAgreeRow.laid) (((OpenSpec.ofChange Rows.fnExactRulesAgreeSpec).at F).post enc Try.prog Try.f10 false true false false) := by
  obtain ⟨places, hx⟩ := reads os enc
  refine returnsInHanded_of_row (C := Try.checked) (s := (OpenSpec.ofChange Rows.fnExactRulesAgreeSpec)) own started (by kernel_rfl) Try.func10
    (witness_row_at (enc := enc) (C := Try.checked) false (laidWorld os) #[.agg #[.int .i64 0, .int .i64 0, .int .i64 0, .int .i64 0, .int .i64 0, .int .i64 0, .int .i64 0, .int .i64 0, .int .i64 0, .int .i64 0, .int .i64 0, .int .i64 0, .int .i64 0, .int .i64 0, .int .i64 0, .int .i64 0], .int .i64 0] rfl (by kernel_rfl) (by kernel_rfl) (by kernel_rfl)
      (OpenSpec.preRow_of_cond 8 hx (by kernel_rfl) (fun k hk => by cases hk) (by kernel_rfl) (laid_met os))) ?_
  intro W base args ds gs before hval0 hW _ hcond hsz hL hsh _
  have hval : ∀ (j : Nat) t v, Try.f10.params[j]? = some t → args[j]? = some v → Value.okWide Try.prog W .any base t v := hval0
  have hW' := hW
  obtain ⟨p, q, hA0, hV, rfl, hfz, hnd⟩ := hW
  have hA : DataW.TrodAll enc Try.prog W 0 (fun _ => true) true Try.f10.params.toList args.toList ds p := hA0
  rw [Try.params10] at hA hval
  obtain ⟨v0, vs0, d0, ds0, p0, q0, hargs, rfl, rfl, h0, r0⟩ := trodAll_cons hA
  obtain ⟨v1, vs1, d1, ds1, p1, q1, rfl, rfl, rfl, h1, r1⟩ := trodAll_cons r0
  obtain ⟨rfl, rfl, rfl⟩ := trodAll_nil r1
  obtain rfl : args = #[v0, v1] := by cases args; simp_all
  obtain ⟨rfl, rfl⟩ := trodVars_none hV
  obtain ⟨a0, rfl, w0⟩ := open_board_at Try.underlying36 rfl rfl Try.underlying34 Try.underlying33 Try.underlying3 cellsK cellsG cellsR cellsI (hval 0 36 v0 rfl rfl) h0
  have k0 := h0
  have lt0 : ∀ x ∈ p0, x.block < W.heap.size := by obtain ⟨m, hm⟩ := k0; exact DataW.trod_lt m _ _ _ hm
  obtain ⟨a1, rfl, rfl, rfl, w1⟩ := open_int Try.underlying3 (hval 1 3 v1 rfl rfl) h1
  clear hA0 hval0
  have hwalk : Calls Try.prog 10 #[.agg (mk 16 a0), .int .i64 a1] W fun e w' => e = .returned (.bool true) ∧ Below W.heap.size W w' := walk a0 w0 a1 w1 W hsh
  refine hwalk.mono fun e W' ⟨he, bel⟩ => ?_
  subst he
  exact ⟨_, rfl, _, _, _, [], _, [], hW', trodAll_mk1 (shut_bool Try.underlying4 _), (trodAll_cons_mk (Below.trod laidOut (by kernel_rfl) (of_decide_eq_true (by kernel_rfl)) k0 bel lt0) (trodAll_cons_mk (shut_int Try.underlying3 w1) trodAll_mk0)), rfl, bel.frame _, fun h => by cases h⟩
set_option maxHeartbeats 8000000 in
theorem closed : joinedFacts Try.pinned.checked.prog 10 Try.f10 ((OpenSpec.ofChange Rows.fnExactRulesAgreeSpec)).bare Rows.fnExactRulesAgreeRow = true := by
  unfold joinedFacts
  repeat' with_reducible refine and_mk ?_ ?_
  case refine_1.refine_1.refine_1.refine_1.refine_1.refine_1.refine_2 => exact enters
  case refine_1.refine_1.refine_1.refine_1.refine_1.refine_2 => exact (show (Rows.fnExactRulesAgreeRow.lifted == Try.prog.liftsFinal) = true by rw [final_no]; rfl)
  case refine_1.refine_1.refine_1.refine_1.refine_2 => exact (show (Try.prog.make == some Rows.fnExactRulesAgreeRow.make) = true by rw [make_cut]; rfl)
  case refine_1.refine_1.refine_1.refine_1.refine_1.refine_1.refine_1.refine_1.refine_1.refine_1.refine_1.refine_1.refine_1.refine_1.refine_1.refine_1.refine_1.refine_1.refine_1.refine_1.refine_1.refine_1.refine_1.refine_1.refine_1.refine_1.refine_1.refine_1.refine_1.refine_1.refine_2 => exact laidOut
  case refine_1.refine_1.refine_1.refine_1.refine_1.refine_1.refine_1.refine_1.refine_1.refine_1.refine_1.refine_1.refine_1.refine_1.refine_1.refine_1.refine_1.refine_1.refine_1.refine_1.refine_1.refine_1.refine_1.refine_1.refine_1.refine_1.refine_1.refine_1.refine_1.refine_2 => exact maps_rowed
  case refine_1.refine_1.refine_1.refine_1.refine_1.refine_1.refine_1.refine_2 => exact stops_heard
  all_goals (as_aux_lemma => kernel_rfl)
theorem proved : Rows.FnExactRulesAgreeSaid :=
  OpenClaim.holds_of_cond 10 Try.f10 rfl rfl rfl rfl rfl rfl rfl ⟨rfl, rfl, rfl, rfl, rfl⟩ rfl rfl rfl rfl rfl (by kernel_rfl) Try.func10 closed
    (of_decide_eq_true (by kernel_rfl)) (by unfold Func.isWrapper; first | (rw [if_pos (by decide +kernel)]; kernel_rfl) | (rw [if_neg (by decide +kernel)]; exact ⟨rfl, rfl⟩))
    (fun os started H enc _ F => by rw [OpenClaim.pre_eq_preRow]; exact lifted os started H enc F)
#print axioms proved
end Go.Proofs.Ytblcojacmjbjcaa.fnExactRulesAgree
