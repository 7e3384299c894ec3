/-
  Proved: for every board and every list of numbers, the law FnExactSlideCycle returns true, and both read as they did. No condition.
-/
import Derived.Test.YtknjmkapabjolaaImplCycle
import Derived.Test.YtknjmkapabjolaaIntsIn
import Derived.Test.YtknjmkapabjolaaBaseA
import Derived.Test.YtknjmkapabjolaaClosed
namespace Go.Proofs.Ytknjmkapabjolaa.fnExactSlideCycle
open Go.ChangeShapes Go.WideShapes Go.ChangeAt Go.RowKit Plain
attribute [local go_sem] store_new
set_option linter.unusedVariables false

theorem below3 {w a b : World} (h : Below w.heap.size w a) (k : Below a.heap.size a b) : Below w.heap.size w b := h.trans (k.mono h.size)
theorem drew_below (w : World) (n : Nat) : Below w.heap.size w (w.drewN n) := ⟨rfl, rfl, rfl, Nat.le_refl _, fun _ _ => rfl⟩
theorem row_of {w : World} {base g : Nat} {zs : List Int} (h : OwnsInts w base (.slice (some ⟨g, 0, none⟩) zs.length zs.length) zs) : IRow w (.slice (some ⟨g, 0, none⟩) zs.length zs.length) zs.length (fun i => zs.getD i 0) := by
  unfold OwnsInts at h
  rw [ints_mk] at h
  exact IRow.of_own h
set_option maxHeartbeats 2000000 in
set_option maxRecDepth 20000 in
theorem walk (w : World) (_ : w.ShapedOpen Try.prog) (a0 : Nat → Int) (_ : ∀ i, i < 16 → (Lit.int .i64 (a0 i)).wf = true) (a : Option Addr) (len cap : Nat) (z : List Int) (hz : IsRow .i64 w a len cap z) :
    Calls Try.prog 10 #[.agg (mk 16 a0), .slice a len cap] w fun e w' => e = .returned (.bool true) ∧ Below w.heap.size w w' := by
  have K0 := Blk.new w 16 a0 25
  have HB : Hid (Below w.heap.size w (w.alloc (.cells (mk 16 a0) 25))) := (Below.refl w.heap.size w).alloc (Nat.le_refl _) _
  have z16 := zero16
  obtain ⟨zs, hzr, hl⟩ := hz.zrow
  have HZ := Lib.hid (hzr.below ((Below.refl w.heap.size w).alloc (Nat.le_refl _) (.cells (mk 16 a0) 25)))
  clear hzr hz
  by_cases hlen : len ≤ 1048576
  · have hzl : zs.length ≤ 1048576 := by omega
    have hlen2 : (len : Int) ≤ 1048576 := by omega
    have HTI : ∀ W, ZRow W (.slice a len cap) zs → Calls Try.prog 24 #[.slice a len cap] W fun e w' => ∃ g, e = .returned (.slice (some ⟨g, 0, none⟩) zs.length zs.length) ∧ IRow w' (.slice (some ⟨g, 0, none⟩) zs.length zs.length) zs.length (fun i => zs.getD i 0) ∧ Below W.heap.size W w' :=
      fun W q => (toInts_any _ zs W q hzl).mono fun e w' ⟨g, h1, h2, h3⟩ => ⟨g, h1, row_of h2, h3⟩
    have hn : ¬ (1048576 < len) := by omega
    clear hlen
    generalize hZ : zs.length = n at *
    generalize (fun i => zs.getD i 0) = h at *
    have HSP : ∀ W g, IRow W (.slice (some ⟨g, 0, none⟩) n n) n h → Calls Try.prog 37 #[.agg (mk 16 a0), .slice (some ⟨g, 0, none⟩) n n] W fun e w' => e = .returned (.tuple #[.int .i64 (cyA a0 h n), .int .i64 (cyL a0 h n), .bool (cyO a0 h n)]) ∧ Below W.heap.size W w' := fun W g q => specCycle_any a0 _ n h W q hzl
    have HIM : ∀ W g, IRow W (.slice (some ⟨g, 0, none⟩) n n) n h → Calls Try.prog 38 #[.agg (mk 16 a0), .slice (some ⟨g, 0, none⟩) n n] W fun e w' => e = .returned (.tuple #[.int .i64 (cyA a0 h n), .int .i64 (cyL a0 h n), .bool (cyO a0 h n)]) ∧ Below W.heap.size W w' := fun W g q => implCycle_any a0 _ n h W q hzl
    generalize cyA a0 h n = DA at *
    generalize cyL a0 h n = DL at *
    generalize cyO a0 h n = DO at *
    have HTI := Lib.hid HTI
    have HSP := Lib.hid HSP
    have HIM := Lib.hid HIM
    have HZL := Lib.hid hzl
    have HZN := Lib.hid hZ
    clear hl hZ hzl
    go_enter Try.func10, Try.ntmps10
    go_wp2_with ((with_reducible show wpList _ _ _ (Oper.mk _ (Op.load 25 _) _ _ _ _ :: _) _ _); refine loadK (K0) rfl rfl rfl ?_)
    refine (toBoard_any _ _).mono ?_
    rintro e w1 ⟨rfl, hb⟩
    have K0 := K0.below hb K0.lt
    have HZ := Lib.hid (HZ.out.below hb)
    have HB : Hid (Below w.heap.size w w1) := below3 HB.out hb
    clear hb
    go_wp2_with fail
    refine (HTI.out _ HZ.out).mono ?_
    rintro e w2 ⟨gs, rfl, r1, hb⟩
    have R1 := Lib.hid r1
    have K0 := K0.below hb K0.lt
    have HZ := Lib.hid (HZ.out.below hb)
    have HB : Hid (Below w.heap.size w w2) := below3 HB.out hb
    clear hb r1
    go_wp2_with fail
    refine (HSP.out _ _ R1.out).mono ?_
    clear R1
    rintro e w3 ⟨rfl, hb⟩
    have K0 := K0.below hb K0.lt
    have HZ := Lib.hid (HZ.out.below hb)
    have HB : Hid (Below w.heap.size w w3) := below3 HB.out hb
    clear hb
    go_wp2_with fail
    refine (HTI.out _ HZ.out).mono ?_
    rintro e w4 ⟨gx, rfl, r1, hb⟩
    have R1 := Lib.hid r1
    have K0 := K0.below hb K0.lt
    have HZ := Lib.hid (HZ.out.below hb)
    have HB : Hid (Below w.heap.size w w4) := below3 HB.out hb
    clear hb r1
    go_wp2_with ((with_reducible show wpList _ _ _ (Oper.mk _ (Op.load 25 _) _ _ _ _ :: _) _ _); refine loadK (K0) rfl rfl rfl ?_)
    refine (toBoard_any _ _).mono ?_
    rintro e w5 ⟨rfl, hb⟩
    have K0 := K0.below hb K0.lt
    have HZ := Lib.hid (HZ.out.below hb)
    have HB : Hid (Below w.heap.size w w5) := below3 HB.out hb
    have R1 := Lib.hid (R1.out.below hb)
    clear hb
    go_wp2_with fail
    refine (HIM.out _ _ R1.out).mono ?_
    rintro e w6 ⟨rfl, hb⟩
    have K0 := K0.below hb K0.lt
    have HZ := Lib.hid (HZ.out.below hb)
    have HB : Hid (Below w.heap.size w w6) := below3 HB.out hb
    have R1 := Lib.hid (R1.out.below hb)
    clear hb
    go_wp2_with fail
    refine (HTI.out _ HZ.out).mono ?_
    rintro e w8 ⟨gy, rfl, r2, hb⟩
    have R2 := Lib.hid r2
    have R1 := Lib.hid (R1.out.below hb)
    have HB : Hid (Below w.heap.size w w8) := below3 HB.out hb
    clear hb r2
    go_wp2_with fail
    refine (eqI_yes _ _ n h _ R1.out R2.out HZL.out).mono ?_
    rintro e w9 ⟨rfl, k, rfl⟩
    have HB : Hid (Below w.heap.size w (w8.drewN k)) := below3 HB.out (drew_below _ k)
    go_wp2_with fail
    go_ret
    exact ⟨rfl, HB.out⟩
  · have hn : 1048576 < len := by omega
    have hn2 : 1048576 < (len : Int) := by omega
    go_enter Try.func10, Try.ntmps10
    go_wp2_with fail
    go_ret
    exact ⟨rfl, HB.out⟩

noncomputable def laidWorld (os : Os) : World := World.holding Try.prog os ⟨#[], #[], []⟩
theorem laid_met (os : Os) : laidMet Try.prog Rows.fnExactSlideCycleRow.laid ((laidWorld os).forCall (fun _ _ => 0) ⟨#[], #[.agg #[.int .i64 0, .int .i64 0, .int .i64 0, .int .i64 0, .int .i64 0, .int .i64 0, .int .i64 0, .int .i64 0, .int .i64 0, .int .i64 0, .int .i64 0, .int .i64 0, .int .i64 0, .int .i64 0, .int .i64 0, .int .i64 0], .slice none 0 0], []⟩).memory := laidMet_of_run' 8 (by kernel_rfl) (by kernel_rfl)
theorem reads (os : Os) {H : Type} (enc : TypeId × Value → H) : ∃ places, DataW.whole enc Try.prog ((laidWorld os).forCall (fun _ _ => 0) ⟨#[], #[.agg #[.int .i64 0, .int .i64 0, .int .i64 0, .int .i64 0, .int .i64 0, .int .i64 0, .int .i64 0, .int .i64 0, .int .i64 0, .int .i64 0, .int .i64 0, .int .i64 0, .int .i64 0, .int .i64 0, .int .i64 0, .int .i64 0], .slice none 0 0], []⟩).memory Try.f10.params.toList Rows.fnExactSlideCycleSpec.vars false #[.agg #[.int .i64 0, .int .i64 0, .int .i64 0, .int .i64 0, .int .i64 0, .int .i64 0, .int .i64 0, .int .i64 0, .int .i64 0, .int .i64 0, .int .i64 0, .int .i64 0, .int .i64 0, .int .i64 0, .int .i64 0, .int .i64 0], .slice none 0 0].toList 8 = some ([.agg [.agg [.agg [.lit (.int .i64 0), .lit (.int .i64 0), .lit (.int .i64 0), .lit (.int .i64 0)], .agg [.lit (.int .i64 0), .lit (.int .i64 0), .lit (.int .i64 0), .lit (.int .i64 0)], .agg [.lit (.int .i64 0), .lit (.int .i64 0), .lit (.int .i64 0), .lit (.int .i64 0)], .agg [.lit (.int .i64 0), .lit (.int .i64 0), .lit (.int .i64 0), .lit (.int .i64 0)]]], .nil], [], places) :=
  ⟨[], by kernel_rfl⟩
set_option linter.unusedVariables false in
set_option maxRecDepth 100000 in
theorem lifted (os : Os) (started : os.Started) (H : Type) (enc : TypeId × Value → H) (F : Stop.Interp) :
    ReturnsInHanded {} Try.checked os 10 .any ((OpenSpec.ofChange Rows.fnExactSlideCycleSpec).preRow enc Try.prog Try.f10 Rows.fnExactSlideCycleRow.domain false Rows.fnExactSlideCycleRow.laid) (((OpenSpec.ofChange Rows.fnExactSlideCycleSpec).at F).post enc Try.prog Try.f10 false true false false) := by
  obtain ⟨places, hx⟩ := reads os enc
  refine returnsInHanded_of_row (C := Try.checked) (s := (OpenSpec.ofChange Rows.fnExactSlideCycleSpec)) own started (by kernel_rfl) Try.func10
    (witness_row_at (enc := enc) (C := Try.checked) false (laidWorld os) #[.agg #[.int .i64 0, .int .i64 0, .int .i64 0, .int .i64 0, .int .i64 0, .int .i64 0, .int .i64 0, .int .i64 0, .int .i64 0, .int .i64 0, .int .i64 0, .int .i64 0, .int .i64 0, .int .i64 0, .int .i64 0, .int .i64 0], .slice none 0 0] rfl (by kernel_rfl) (by kernel_rfl) (by kernel_rfl)
      (OpenSpec.preRow_of_cond 8 hx (by kernel_rfl) (fun k hk => by cases hk) (by kernel_rfl) (laid_met os))) ?_
  intro W base args ds gs before hval0 hW _ hcond hsz hL hsh _
  have hval : ∀ (j : Nat) t v, Try.f10.params[j]? = some t → args[j]? = some v → Value.okWide Try.prog W .any base t v := hval0
  have hW' := hW
  obtain ⟨p, q, hA0, hV, rfl, hfz, hnd⟩ := hW
  have hA : DataW.TrodAll enc Try.prog W 0 (fun _ => true) true Try.f10.params.toList args.toList ds p := hA0
  rw [Try.params10] at hA hval
  obtain ⟨v0, vs0, d0, ds0, p0, q0, hargs, rfl, rfl, h0, r0⟩ := trodAll_cons hA
  obtain ⟨v1, vs1, d1, ds1, p1, q1, rfl, rfl, rfl, h1, r1⟩ := trodAll_cons r0
  obtain ⟨rfl, rfl, rfl⟩ := trodAll_nil r1
  obtain rfl : args = #[v0, v1] := by cases args; simp_all
  obtain ⟨rfl, rfl⟩ := trodVars_none hV
  obtain ⟨a0, rfl, w0⟩ := open_board_at Try.underlying25 rfl rfl Try.underlying23 Try.underlying22 Try.underlying3 cellsK cellsG cellsR cellsI (hval 0 25 v0 rfl rfl) h0
  have k0 := h0
  have lt0 : ∀ x ∈ p0, x.block < W.heap.size := by obtain ⟨m, hm⟩ := k0; exact DataW.trod_lt m _ _ _ hm
  obtain ⟨a1, len1, cap1, rfl⟩ := okWide_slice Try.underlying43 (hval 1 43 v1 rfl rfl)
  have k1 := h1
  have lt1 : ∀ x ∈ p1, x.block < W.heap.size := by obtain ⟨m, hm⟩ := k1; exact DataW.trod_lt m _ _ _ hm
  obtain ⟨z1, w1⟩ : ∃ zs, IsRow .i64 W a1 len1 cap1 zs := by
    obtain ⟨fuel, hf⟩ := h1
    rcases open_ints Try.underlying43 Try.underlying3 (by kernel_rfl) hf with ⟨hcs, _⟩ | ⟨x, l, c, zs, hcs, _, hl, hm, hz, _, hcell, hwz⟩
    · simp [Value.cells] at hcs; obtain ⟨rfl, rfl, rfl⟩ := hcs; exact ⟨[], .inl ⟨rfl, rfl, rfl, rfl⟩⟩
    · simp [Value.cells] at hcs; obtain ⟨rfl, rfl, rfl⟩ := hcs; exact ⟨zs, .inr ⟨_, rfl, hl, hm, by simpa using hz, hcell, hwz⟩⟩
  clear hA0 hval0
  have hwalk : Calls Try.prog 10 #[.agg (mk 16 a0), .slice a1 len1 cap1] W fun e w' => e = .returned (.bool true) ∧ Below W.heap.size W w' := walk W hsh a0 w0 a1 len1 cap1 z1 w1
  refine hwalk.mono fun e W' ⟨he, bel⟩ => ?_
  subst he
  exact ⟨_, rfl, _, _, _, [], _, [], hW', trodAll_mk1 (shut_bool Try.underlying4 _), (trodAll_cons_mk (Below.trod laidOut (by kernel_rfl) (of_decide_eq_true (by kernel_rfl)) k0 bel lt0) (trodAll_cons_mk (Below.trod laidOut (by kernel_rfl) (of_decide_eq_true (by kernel_rfl)) k1 bel lt1) trodAll_mk0)), rfl, bel.frame _, fun h => by cases h⟩
theorem closed : joinedFacts Try.pinned.checked.prog 10 Try.f10 ((OpenSpec.ofChange Rows.fnExactSlideCycleSpec)).bare Rows.fnExactSlideCycleRow = true := by
  unfold joinedFacts
  repeat' with_reducible refine and_mk ?_ ?_
  case refine_1.refine_1.refine_1.refine_1.refine_1.refine_1.refine_2 => exact enters
  case refine_1.refine_1.refine_1.refine_1.refine_1.refine_2 => exact (show (Rows.fnExactSlideCycleRow.lifted == Try.prog.liftsFinal) = true by rw [final_no]; rfl)
  case refine_1.refine_1.refine_1.refine_1.refine_2 => exact (show (Try.prog.make == some Rows.fnExactSlideCycleRow.make) = true by rw [make_cut]; rfl)
  case refine_1.refine_1.refine_1.refine_1.refine_1.refine_1.refine_1.refine_1.refine_1.refine_1.refine_1.refine_1.refine_1.refine_1.refine_1.refine_1.refine_1.refine_1.refine_1.refine_1.refine_1.refine_1.refine_1.refine_1.refine_1.refine_1.refine_1.refine_1.refine_1.refine_1.refine_2 => exact laidOut
  case refine_1.refine_1.refine_1.refine_1.refine_1.refine_1.refine_1.refine_1.refine_1.refine_1.refine_1.refine_1.refine_1.refine_1.refine_1.refine_1.refine_1.refine_1.refine_1.refine_1.refine_1.refine_1.refine_1.refine_1.refine_1.refine_1.refine_1.refine_1.refine_1.refine_2 => exact maps_rowed
  case refine_1.refine_1.refine_1.refine_1.refine_1.refine_1.refine_1.refine_2 => exact stops_heard
  all_goals (as_aux_lemma => kernel_rfl)
theorem proved : Rows.FnExactSlideCycleSaid :=
  OpenClaim.holds_of_cond 10 Try.f10 rfl rfl rfl rfl rfl rfl rfl ⟨rfl, rfl, rfl, rfl, rfl⟩ rfl rfl rfl rfl rfl (by kernel_rfl) Try.func10 closed
    (of_decide_eq_true (by kernel_rfl)) (by unfold Func.isWrapper; first | (rw [if_pos (by decide +kernel)]; kernel_rfl) | (rw [if_neg (by decide +kernel)]; exact ⟨rfl, rfl⟩))
    (fun os started H enc _ F => by rw [OpenClaim.pre_eq_preRow]; exact lifted os started H enc F)
#print axioms proved
end Go.Proofs.Ytknjmkapabjolaa.fnExactSlideCycle
