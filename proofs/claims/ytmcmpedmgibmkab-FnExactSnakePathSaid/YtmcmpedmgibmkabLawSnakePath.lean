/-
  Proved: for every number, the law FnExactSnakePath returns true, and the number reads as it did. No condition.
-/
import Derived.Test.YtmcmpedmgibmkabSnakeImpl
import Derived.Test.YtmcmpedmgibmkabBaseA
import Derived.Test.YtmcmpedmgibmkabClosed
namespace Go.Proofs.Ytmcmpedmgibmkab.fnExactSnakePath
open Go.ChangeShapes Go.WideShapes Go.ChangeAt Go.RowKit Plain
attribute [local go_sem] store_new
set_option linter.unusedVariables false
set_option linter.unusedSimpArgs false
theorem eqPath_same (f : Nat → Int) (w : World) :
    Calls Try.prog 9 #[.agg (mk 32 f), .agg (mk 32 f)] w fun e w' => e = .returned (.bool true) ∧ Below w.heap.size w w' := by
  go_enter Try.func9, Try.ntmps9
  go_wp2_with fail
  have K1 := (Blk.new w 32 f 23).alloc (.cells (mk 32 f) 23)
  have K2 := Blk.new (w.alloc (.cells (mk 32 f) 23)) 32 f 23
  have HB := Lib.hid (((Below.refl w.heap.size w).alloc (Nat.le_refl _) (.cells (mk 32 f) 23)).alloc (by simp) (.cells (mk 32 f) 23))
  simp only [World.size_alloc] at K1 K2
  generalize (w.alloc (.cells (mk 32 f) 23)).alloc (.cells (mk 32 f) 23) = w1 at *
  go_loopg [5] 16 (fun g s5 wr => ∃ r : Nat, r + g = 16 ∧ s5 = .int .i64 r ∧ Blk wr w.heap.size 32 f 23 ∧ Blk wr (w.heap.size + 1) 32 f 23 ∧ Hid (Below w.heap.size w wr))
  case atStart => exact ⟨0, by omega, rfl, K1, K2, HB⟩
  case round =>
    obtain ⟨r, hrg, rfl, k1, k2, hb⟩ := hrel
    cases gk with
    | zero =>
      have hr : ¬ ((r : Int) < 16) := by omega
      clear hrg
      go_wp2_with fail
      go_ret
      exact ⟨rfl, hb.out⟩
    | succ g =>
      have hr0 : (0 : Int) ≤ (r : Int) := by omega
      have hr4 : (r : Int) < 16 := by omega
      have a0 := k1.cell (i := r * 2) (by omega)
      have a1 := k1.cell (i := r * 2 + 1) (by omega)
      have b0 := k2.cell (i := r * 2) (by omega)
      have b1 := k2.cell (i := r * 2 + 1) (by omega)
      have e4 : (#[.int .i64 (f (r * 2)), .int .i64 (f (r * 2 + 1))] : Array Value) = mk 2 (fun c => f (r * 2 + c)) := rfl
      go_wp2_with fail
      go_region_with ((go_at_call 31; refine (eqIntA2_same _ _).mono ?_; rintro e w2 ⟨rfl, hb2⟩))
      all_goals
        have l1 := k1.lt
        have l2 := k2.lt
        have k1 := k1.drew.below hb2 l1
        have k2 := k2.drew.below hb2 l2
        have hb3 : Hid (Below w.heap.size w w2) := hb.out.drew.trans (hb2.mono hb.out.size)
        clear hb2 a0 a1 b0 b1 e4
        go_wp2_with fail
        go_roundg g
        case rel => exact ⟨r + 1, by omega, by go_num, k1, k2, hb3⟩
        case measure => omega
theorem walk (a0 : Int) (_ : (Lit.int .i64 a0).wf = true) (w : World) (_ : w.ShapedOpen Try.prog) :
    Calls Try.prog 3 #[.int .i64 a0] w fun e w' => e = .returned (.bool true) ∧ Below w.heap.size w w' := by
  have z32 := zero32
  have HS := Lib.hid (fun w => specSnake_any a0 w)
  have HI := Lib.hid (fun w => implSnake_any a0 w)
  have HB : Hid (Below w.heap.size w w) := Below.refl w.heap.size w
  generalize snR a0 = F at *
  generalize snO a0 = O at *
  go_enter Try.func3, Try.ntmps3
  go_wp2_with fail
  refine (HS.out _).mono ?_
  rintro e w1 ⟨rfl, hb⟩
  have HB : Hid (Below w.heap.size w (w1.alloc (.cells (mk 32 F) 23))) := hb.alloc hb.size _
  have K3 := Blk.new w1 32 F 23
  clear hb
  go_wp2_with fail
  generalize w1.alloc (.cells (mk 32 F) 23) = w2 at *
  generalize w1.heap.size = b3 at *
  refine (HI.out _).mono ?_
  rintro e w3 ⟨rfl, hb⟩
  have K3 := (K3.below hb K3.lt).alloc (.cells (mk 32 F) 23)
  have HB := HB.out.trans (hb.mono HB.out.size)
  have HB : Hid (Below w.heap.size w (w3.alloc (.cells (mk 32 F) 23))) := HB.alloc HB.size _
  have K5 := Blk.new w3 32 F 23
  clear hb
  go_wp2_with (first | ((with_reducible show wpList _ _ _ (Oper.mk _ (Op.load 23 _) _ _ _ _ :: _) _ _); refine loadP (K5) rfl rfl rfl ?_) | ((with_reducible show wpList _ _ _ (Oper.mk _ (Op.load 23 _) _ _ _ _ :: _) _ _); refine loadP (K3) rfl rfl rfl ?_))
  refine (eqPath_same F _).mono ?_
  rintro e w4 ⟨rfl, hb⟩
  have HB : Hid (Below w.heap.size w w4) := HB.out.trans (hb.mono HB.out.size)
  clear hb
  go_wp2_with fail
  go_ret
  exact ⟨rfl, HB.out⟩

noncomputable def laidWorld (os : Os) : World := World.holding Try.prog os ⟨#[], #[], []⟩
theorem laid_met (os : Os) : laidMet Try.prog Rows.fnExactSnakePathRow.laid ((laidWorld os).forCall (fun _ _ => 0) ⟨#[], #[.int .i64 0], []⟩).memory := laidMet_of_run' 8 (by kernel_rfl) (by kernel_rfl)
theorem reads (os : Os) {H : Type} (enc : TypeId × Value → H) : ∃ places, DataW.whole enc Try.prog ((laidWorld os).forCall (fun _ _ => 0) ⟨#[], #[.int .i64 0], []⟩).memory Try.f3.params.toList Rows.fnExactSnakePathSpec.vars false #[.int .i64 0].toList 8 = some ([.lit (.int .i64 0)], [], places) :=
  ⟨[], by kernel_rfl⟩
set_option linter.unusedVariables false in
set_option maxRecDepth 100000 in
theorem lifted (os : Os) (started : os.Started) (H : Type) (enc : TypeId × Value → H) (F : Stop.Interp) :
    ReturnsInHanded {} Try.checked os 3 .any ((OpenSpec.ofChange Rows.fnExactSnakePathSpec).preRow enc Try.prog Try.f3 Rows.fnExactSnakePathRow.domain false Rows.fnExactSnakePathRow.laid) (((OpenSpec.ofChange Rows.fnExactSnakePathSpec).at F).post enc Try.prog Try.f3 false true false false) := by
  obtain ⟨places, hx⟩ := reads os enc
  refine returnsInHanded_of_row (C := Try.checked) (s := (OpenSpec.ofChange Rows.fnExactSnakePathSpec)) own started (by kernel_rfl) Try.func3
    (witness_row_at (enc := enc) (C := Try.checked) false (laidWorld os) #[.int .i64 0] rfl (by kernel_rfl) (by kernel_rfl) (by kernel_rfl)
      (OpenSpec.preRow_of_cond 8 hx (by kernel_rfl) (fun k hk => by cases hk) (by kernel_rfl) (laid_met os))) ?_
  intro W base args ds gs before hval0 hW _ hcond hsz hL hsh _
  have hval : ∀ (j : Nat) t v, Try.f3.params[j]? = some t → args[j]? = some v → Value.okWide Try.prog W .any base t v := hval0
  have hW' := hW
  obtain ⟨p, q, hA0, hV, rfl, hfz, hnd⟩ := hW
  have hA : DataW.TrodAll enc Try.prog W 0 (fun _ => true) true Try.f3.params.toList args.toList ds p := hA0
  rw [Try.params3] at hA hval
  obtain ⟨v0, vs0, d0, ds0, p0, q0, hargs, rfl, rfl, h0, r0⟩ := trodAll_cons hA
  obtain ⟨rfl, rfl, rfl⟩ := trodAll_nil r0
  obtain rfl : args = #[v0] := by cases args; simp_all
  obtain ⟨rfl, rfl⟩ := trodVars_none hV
  obtain ⟨a0, rfl, rfl, rfl, w0⟩ := open_int Try.underlying3 (hval 0 3 v0 rfl rfl) h0
  clear hA0 hval0
  have hwalk : Calls Try.prog 3 #[.int .i64 a0] W fun e w' => e = .returned (.bool true) ∧ Below W.heap.size W w' := walk a0 w0 W hsh
  refine hwalk.mono fun e W' ⟨he, bel⟩ => ?_
  subst he
  exact ⟨_, rfl, _, _, _, [], _, [], hW', trodAll_mk1 (shut_bool Try.underlying4 _), (trodAll_cons_mk (shut_int Try.underlying3 w0) trodAll_mk0), rfl, bel.frame _, fun h => by cases h⟩
theorem closed : joinedFacts Try.pinned.checked.prog 3 Try.f3 ((OpenSpec.ofChange Rows.fnExactSnakePathSpec)).bare Rows.fnExactSnakePathRow = true := by
  unfold joinedFacts
  repeat' with_reducible refine and_mk ?_ ?_
  case refine_1.refine_1.refine_1.refine_1.refine_1.refine_1.refine_2 => exact enters
  case refine_1.refine_1.refine_1.refine_1.refine_1.refine_2 => exact (show (Rows.fnExactSnakePathRow.lifted == Try.prog.liftsFinal) = true by rw [final_no]; rfl)
  case refine_1.refine_1.refine_1.refine_1.refine_2 => exact (show (Try.prog.make == some Rows.fnExactSnakePathRow.make) = true by rw [make_cut]; rfl)
  case refine_1.refine_1.refine_1.refine_1.refine_1.refine_1.refine_1.refine_1.refine_1.refine_1.refine_1.refine_1.refine_1.refine_1.refine_1.refine_1.refine_1.refine_1.refine_1.refine_1.refine_1.refine_1.refine_1.refine_1.refine_1.refine_1.refine_1.refine_1.refine_1.refine_1.refine_2 => exact laidOut
  case refine_1.refine_1.refine_1.refine_1.refine_1.refine_1.refine_1.refine_1.refine_1.refine_1.refine_1.refine_1.refine_1.refine_1.refine_1.refine_1.refine_1.refine_1.refine_1.refine_1.refine_1.refine_1.refine_1.refine_1.refine_1.refine_1.refine_1.refine_1.refine_1.refine_2 => exact maps_rowed
  case refine_1.refine_1.refine_1.refine_1.refine_1.refine_1.refine_1.refine_2 => exact stops_heard
  all_goals (as_aux_lemma => kernel_rfl)
theorem proved : Rows.FnExactSnakePathSaid :=
  OpenClaim.holds_of_cond 3 Try.f3 rfl rfl rfl rfl rfl rfl rfl ⟨rfl, rfl, rfl, rfl, rfl⟩ rfl rfl rfl rfl rfl (by kernel_rfl) Try.func3 closed
    (of_decide_eq_true (by kernel_rfl)) (by unfold Func.isWrapper; first | (rw [if_pos (by decide +kernel)]; kernel_rfl) | (rw [if_neg (by decide +kernel)]; exact ⟨rfl, rfl⟩))
    (fun os started H enc _ F => by rw [OpenClaim.pre_eq_preRow]; exact lifted os started H enc F)
#print axioms proved
end Go.Proofs.Ytmcmpedmgibmkab.fnExactSnakePath
