/-
  Proved: for every replay, the law FnExactReplayText returns true, and the replay reads as it did. No condition.
-/
import Derived.Test.YtekdodlkimgbhaaRepTxt
import Derived.Test.YtekdodlkimgbhaaRepLaw
import Derived.Test.YtekdodlkimgbhaaBaseA
import Derived.Test.YtekdodlkimgbhaaClosed
namespace Go.Proofs.Ytekdodlkimgbhaa.fnExactReplayText
open Go.ChangeShapes Go.WideShapes Go.ChangeAt Go.RowKit Plain
attribute [local go_sem] store_new store_newR
set_option linter.unusedVariables false
theorem below3 {w a b : World} (h : Below w.heap.size w a) (k : Below a.heap.size a b) : Below w.heap.size w b := h.trans (k.mono h.size)
set_option maxHeartbeats 4000000 in
set_option maxRecDepth 20000 in
theorem walk (w : World) (_ : w.ShapedOpen Try.prog) (a0 : Nat → Int) (s0 : Option Addr) (len0 cap0 : Nat) (hz : IsSteps w s0 len0 cap0) :
    Calls Try.prog 12 #[.agg (rpl a0 (.slice s0 len0 cap0))] w fun e w' => e = .returned (.bool true) ∧ Below w.heap.size w w' := by
  have K0 := Rp.new w a0 (.slice s0 len0 cap0) 28
  have HB : Hid (Below w.heap.size w (w.alloc (.cells (rpl a0 (.slice s0 len0 cap0)) 28))) := (Below.refl w.heap.size w).alloc (Nat.le_refl _) _
  have z16 := zero16
  have z17 := zeroRp
  obtain ⟨h, hzr⟩ := hz.srow
  have HZ := Lib.hid hzr
  have hll := hz.len_le
  clear hzr hz
  have HSZ := Lib.hid (fun W => szReplay_any a0 s0 len0 cap0 1048576 W hll (by decide) (Int.le_refl _))
  have HSP : ∀ W v, KRow 4 W v len0 h → len0 ≤ 1048576 → Calls Try.prog 40 #[.agg (rpl a0 v)] W fun e w' => e = .returned (.tuple #[.string (rtR a0 h len0), .bool (rplO a0 h len0)]) ∧ Below W.heap.size W w' := fun W v q hn => specRepT_any a0 v len0 h W q hn
  have HIM : ∀ W v, KRow 4 W v len0 h → len0 ≤ 1048576 → Calls Try.prog 41 #[.agg (rpl a0 v)] W fun e w' => e = .returned (.tuple #[.string (rtR a0 h len0), .bool (rplO a0 h len0)]) ∧ Below W.heap.size W w' := fun W v q hn => implRepT_any a0 v len0 h W q hn
  generalize rplO a0 h len0 = O at *
  generalize rtR a0 h len0 = S at *
  have HSP := Lib.hid HSP
  have HIM := Lib.hid HIM
  go_enter Try.func12, Try.ntmps12
  go_wp2_with ((with_reducible show wpList _ _ _ (Oper.mk _ (Op.load 28 _) _ _ _ _ :: _) _ _); refine loadRl (K0) rfl rfl rfl ?_)
  refine (HSZ.out _).mono ?_
  rintro e w1 ⟨⟨m, rfl, hm⟩, hb⟩
  have HM := Lib.hid hm
  clear hm HSZ
  have K0 := K0.below hb K0.lt
  have HB : Hid (Below w.heap.size w w1) := below3 HB.out hb
  clear hb
  by_cases hm0 : m < 0
  · go_wp2_with fail
    go_ret
    exact ⟨rfl, HB.out⟩
  · have HN := Lib.hid (HM.out (by omega)).1
    have n1 : ¬ (m < 0) := hm0
    go_wp2_with ((with_reducible show wpList _ _ _ (Oper.mk _ (Op.load 28 _) _ _ _ _ :: _) _ _); refine loadRl (K0) rfl rfl rfl ?_)
    refine (toReplay_any a0 _ len0 h _ (HZ.out.below HB.out) HN.out).mono ?_
    rintro e w2 ⟨g1, rfl, r1, _, hb⟩
    have K0 := K0.below hb K0.lt
    have HB : Hid (Below w.heap.size w w2) := below3 HB.out hb
    have CG := Lib.hid r1.at
    clear hb r1
    go_wp2_with fail
    refine (HSP.out _ _ ⟨_, _, rfl, Nat.le_refl _, CG.out⟩ HN.out).mono ?_
    rintro e w3 ⟨rfl, hb⟩
    have K0 := K0.below hb K0.lt
    have HB : Hid (Below w.heap.size w w3) := below3 HB.out hb
    clear hb CG
    go_wp2_with ((with_reducible show wpList _ _ _ (Oper.mk _ (Op.load 28 _) _ _ _ _ :: _) _ _); refine loadRl (K0) rfl rfl rfl ?_)
    refine (toReplay_any a0 _ len0 h _ (HZ.out.below HB.out) HN.out).mono ?_
    rintro e w4 ⟨gx, rfl, r1, _, hb⟩
    have K0 := K0.below hb K0.lt
    have HB : Hid (Below w.heap.size w w4) := below3 HB.out hb
    have CX := r1.at
    clear hb r1
    have K0 := K0.alloc (.cells (rpl a0 (.slice (some ⟨gx, 0, none⟩) len0 len0)) 34)
    have KX := Rp.new w4 a0 (.slice (some ⟨gx, 0, none⟩) len0 len0) 34
    have CX := CX.alloc (.cells (rpl a0 (.slice (some ⟨gx, 0, none⟩) len0 len0)) 34)
    have HB : Hid (Below w.heap.size w (w4.alloc (.cells (rpl a0 (.slice (some ⟨gx, 0, none⟩) len0 len0)) 34))) := HB.out.alloc HB.out.size _
    go_wp2_with ((with_reducible show wpList _ _ _ (Oper.mk _ (Op.load 34 _) _ _ _ _ :: _) _ _); refine loadRp (KX) rfl rfl rfl ?_)
    refine (HIM.out _ _ ⟨_, _, rfl, Nat.le_refl _, CX⟩ HN.out).mono ?_
    rintro e w5 ⟨rfl, hb⟩
    have K0 := K0.below hb K0.lt
    have KX := KX.below hb KX.lt
    have HB : Hid (Below w.heap.size w w5) := below3 HB.out hb
    have CX := CX.below hb
    clear hb
    go_wp2_with fail
    refine wp_region_held_drew (S := fun W => Rp W w.heap.size a0 (.slice s0 len0 cap0) 28 ∧ Rp W w4.heap.size a0 (.slice (some ⟨gx, 0, none⟩) len0 len0) 34 ∧ CAt W gx (len0 * 4) h ∧ Below w.heap.size w W) (by kernel_rfl) (⟨K0.drew, KX.drew, CX.drew, HB.out.drew⟩) (fun hHeld => ?_)
    have K0 : Rp (w5).drew w.heap.size a0 (.slice s0 len0 cap0) 28 := K0.drew
    have KX : Rp (w5).drew w4.heap.size a0 (.slice (some ⟨gx, 0, none⟩) len0 len0) 34 := KX.drew
    have CX : CAt (w5).drew gx (len0 * 4) h := CX.drew
    have HB : Hid (Below w.heap.size w (w5).drew) := HB.out.drew
    generalize (w5).drew = x0 at *
    refine wpAnyH_take (i := 0) (oi := { dst := some 35, op := _, type := _, pos := _, after := _, guard := _ }) (v := .agg (rpl a0 (.slice (some ⟨gx, 0, none⟩) len0 len0))) rfl (by kernel_rfl) (by kernel_rfl) (by kernel_rfl) (fun _ _ _ h => h) (Or.inl ⟨by rfl, fun _ q => execRp q.2.1 rfl rfl⟩) (by assumption) ?_
    try simp only [Act.put, List.setIfInBounds_toArray, List.set_cons_zero, List.set_cons_succ]
    refine wpAnyH_take (i := 1) (oi := { dst := some 36, op := _, type := _, pos := _, after := _, guard := _ }) (v := .agg (rpl a0 (.slice s0 len0 cap0))) rfl (by kernel_rfl) (by kernel_rfl) (by kernel_rfl) (fun _ _ _ h => h) (Or.inl ⟨by rfl, fun _ q => execRl q.1 rfl rfl⟩) (by assumption) ?_
    try simp only [Act.put, List.setIfInBounds_toArray, List.set_cons_zero, List.set_cons_succ]
    refine wpAnyH_ready (rs := [2]) (by kernel_rfl) (by simp) ?_
    refine AllReadyH.cons rfl (fun K hK => ?_) AllReadyH.nil
    go_simp
    refine (toReplay_any a0 _ len0 h _ (HZ.out.below HB.out) HN.out).mono ?_
    rintro e x1 ⟨gy, rfl, ry, _, hb⟩
    have K0 := K0.below hb K0.lt
    have KX := KX.below hb KX.lt
    have HB : Hid (Below w.heap.size w x1) := below3 HB.out hb
    have CX := CX.below hb
    have CY := ry.at
    clear hb hHeld ry
    go_wp2_with fail
    refine hK.out _ _ ⟨K0, KX, CX, HB.out⟩ (fun hHeld => ?_)
    clear hK K
    try simp only [Act.put, List.setIfInBounds_toArray, List.set_cons_zero, List.set_cons_succ]
    refine wpAnyH_ready (rs := [3]) (by kernel_rfl) (by simp) ?_
    refine AllReadyH.cons rfl (fun K hK => ?_) AllReadyH.nil
    go_simp
    refine (eqReplay_yes a0 _ _ len0 h _ ⟨_, _, rfl, Nat.le_refl _, CX⟩ ⟨_, _, rfl, Nat.le_refl _, CY⟩ HN.out).mono ?_
    rintro e x2 ⟨rfl, hb⟩
    have K0 := K0.below hb K0.lt
    have KX := KX.below hb KX.lt
    have HB : Hid (Below w.heap.size w x2) := below3 HB.out hb
    have CX := CX.below hb
    clear hb hHeld CY
    go_wp2_with fail
    refine hK.out _ _ ⟨K0, KX, CX, HB.out⟩ (fun hHeld => ?_)
    clear hK K
    try simp only [Act.put, List.setIfInBounds_toArray, List.set_cons_zero, List.set_cons_succ]
    refine wpAnyH_take (i := 4) (oi := { dst := some 39, op := _, type := _, pos := _, after := _, guard := _ }) (v := .bool false) rfl (by kernel_rfl) (by kernel_rfl) (by kernel_rfl) (fun _ _ _ h => h) (Or.inl ⟨by rfl, by intro w hSw; clear hSw; go_simp; (try with_reducible rfl)⟩) (by assumption) ?_
    try simp only [Act.put, List.setIfInBounds_toArray, List.set_cons_zero, List.set_cons_succ]
    refine wpAnyH_done (by kernel_rfl) ?_ _
    clear hHeld
    go_wp2_with fail
    go_ret
    exact ⟨rfl, HB.out⟩

noncomputable def laidWorld (os : Os) : World := World.holding Try.prog os ⟨#[], #[], []⟩
theorem laid_met (os : Os) : laidMet Try.prog Rows.fnExactReplayTextRow.laid ((laidWorld os).forCall (fun _ _ => 0) ⟨#[], #[.agg #[.int .i64 0, .int .i64 0, .int .i64 0, .int .i64 0, .int .i64 0, .int .i64 0, .int .i64 0, .int .i64 0, .int .i64 0, .int .i64 0, .int .i64 0, .int .i64 0, .int .i64 0, .int .i64 0, .int .i64 0, .int .i64 0, .slice none 0 0]], []⟩).memory := laidMet_of_run' 8 (by kernel_rfl) (by kernel_rfl)
theorem reads (os : Os) {H : Type} (enc : TypeId × Value → H) : ∃ places, DataW.whole enc Try.prog ((laidWorld os).forCall (fun _ _ => 0) ⟨#[], #[.agg #[.int .i64 0, .int .i64 0, .int .i64 0, .int .i64 0, .int .i64 0, .int .i64 0, .int .i64 0, .int .i64 0, .int .i64 0, .int .i64 0, .int .i64 0, .int .i64 0, .int .i64 0, .int .i64 0, .int .i64 0, .int .i64 0, .slice none 0 0]], []⟩).memory Try.f12.params.toList Rows.fnExactReplayTextSpec.vars false #[.agg #[.int .i64 0, .int .i64 0, .int .i64 0, .int .i64 0, .int .i64 0, .int .i64 0, .int .i64 0, .int .i64 0, .int .i64 0, .int .i64 0, .int .i64 0, .int .i64 0, .int .i64 0, .int .i64 0, .int .i64 0, .int .i64 0, .slice none 0 0]].toList 8 = some ([.agg [.agg [.agg [.agg [.lit (.int .i64 0), .lit (.int .i64 0), .lit (.int .i64 0), .lit (.int .i64 0)], .agg [.lit (.int .i64 0), .lit (.int .i64 0), .lit (.int .i64 0), .lit (.int .i64 0)], .agg [.lit (.int .i64 0), .lit (.int .i64 0), .lit (.int .i64 0), .lit (.int .i64 0)], .agg [.lit (.int .i64 0), .lit (.int .i64 0), .lit (.int .i64 0), .lit (.int .i64 0)]]], .nil]], [], places) :=
  ⟨[], by kernel_rfl⟩
set_option linter.unusedVariables false in
set_option maxRecDepth 100000 in
theorem lifted (os : Os) (started : os.Started) (H : Type) (enc : TypeId × Value → H) (F : Stop.Interp) :
    ReturnsInHanded {} Try.checked os 12 .any ((OpenSpec.ofChange Rows.fnExactReplayTextSpec).preRow enc Try.prog Try.f12 Rows.fnExactReplayTextRow.domain false Rows.fnExactReplayTextRow.laid) (((OpenSpec.ofChange Rows.fnExactReplayTextSpec).at F).post enc Try.prog Try.f12 false true false false) := by
  obtain ⟨places, hx⟩ := reads os enc
  refine returnsInHanded_of_row (C := Try.checked) (s := (OpenSpec.ofChange Rows.fnExactReplayTextSpec)) own started (by kernel_rfl) Try.func12
    (witness_row_at (enc := enc) (C := Try.checked) false (laidWorld os) #[.agg #[.int .i64 0, .int .i64 0, .int .i64 0, .int .i64 0, .int .i64 0, .int .i64 0, .int .i64 0, .int .i64 0, .int .i64 0, .int .i64 0, .int .i64 0, .int .i64 0, .int .i64 0, .int .i64 0, .int .i64 0, .int .i64 0, .slice none 0 0]] rfl (by kernel_rfl) (by kernel_rfl) (by kernel_rfl)
      (OpenSpec.preRow_of_cond 8 hx (by kernel_rfl) (fun k hk => by cases hk) (by kernel_rfl) (laid_met os))) ?_
  intro W base args ds gs before hval0 hW _ hcond hsz hL hsh _
  have hval : ∀ (j : Nat) t v, Try.f12.params[j]? = some t → args[j]? = some v → Value.okWide Try.prog W .any base t v := hval0
  have hW' := hW
  obtain ⟨p, q, hA0, hV, rfl, hfz, hnd⟩ := hW
  have hA : DataW.TrodAll enc Try.prog W 0 (fun _ => true) true Try.f12.params.toList args.toList ds p := hA0
  rw [Try.params12] at hA hval
  obtain ⟨v0, vs0, d0, ds0, p0, q0, hargs, rfl, rfl, h0, r0⟩ := trodAll_cons hA
  obtain ⟨rfl, rfl, rfl⟩ := trodAll_nil r0
  obtain rfl : args = #[v0] := by cases args; simp_all
  obtain ⟨rfl, rfl⟩ := trodVars_none hV
  obtain ⟨a0, s0, len0, cap0, rfl, w0⟩ := open_replay Try.underlying28 rfl rfl rfl rfl Try.underlying25 rfl rfl Try.underlying23 Try.underlying22 Try.underlying3 Try.underlying26 Try.underlying46 rfl rfl rfl rfl rfl rfl Try.underlying44 cellsRl cellsK (by kernel_rfl) cellsG cellsR cellsI cellsU cellsC (hval 0 28 v0 rfl rfl) h0
  have k0 := h0
  have lt0 : ∀ x ∈ p0, x.block < W.heap.size := by obtain ⟨m, hm⟩ := k0; exact DataW.trod_lt m _ _ _ hm
  clear hA0 hval0
  have hwalk : Calls Try.prog 12 #[.agg (rpl a0 (.slice s0 len0 cap0))] W fun e w' => e = .returned (.bool true) ∧ Below W.heap.size W w' := walk W hsh a0 s0 len0 cap0 w0
  refine hwalk.mono fun e W' ⟨he, bel⟩ => ?_
  subst he
  exact ⟨_, rfl, _, _, _, [], _, [], hW', trodAll_mk1 (shut_bool Try.underlying4 _), (trodAll_cons_mk (Below.trod laidOut (by kernel_rfl) (of_decide_eq_true (by kernel_rfl)) k0 bel lt0) trodAll_mk0), rfl, bel.frame _, fun h => by cases h⟩
set_option maxHeartbeats 8000000 in
theorem closed : joinedFacts Try.pinned.checked.prog 12 Try.f12 ((OpenSpec.ofChange Rows.fnExactReplayTextSpec)).bare Rows.fnExactReplayTextRow = true := by
  unfold joinedFacts
  repeat' with_reducible refine and_mk ?_ ?_
  case refine_1.refine_1.refine_1.refine_1.refine_1.refine_1.refine_2 => exact enters
  case refine_1.refine_1.refine_1.refine_1.refine_1.refine_2 => exact (show (Rows.fnExactReplayTextRow.lifted == Try.prog.liftsFinal) = true by rw [final_no]; rfl)
  case refine_1.refine_1.refine_1.refine_1.refine_2 => exact (show (Try.prog.make == some Rows.fnExactReplayTextRow.make) = true by rw [make_cut]; rfl)
  case refine_1.refine_1.refine_1.refine_1.refine_1.refine_1.refine_1.refine_1.refine_1.refine_1.refine_1.refine_1.refine_1.refine_1.refine_1.refine_1.refine_1.refine_1.refine_1.refine_1.refine_1.refine_1.refine_1.refine_1.refine_1.refine_1.refine_1.refine_1.refine_1.refine_1.refine_2 => exact laidOut
  case refine_1.refine_1.refine_1.refine_1.refine_1.refine_1.refine_1.refine_1.refine_1.refine_1.refine_1.refine_1.refine_1.refine_1.refine_1.refine_1.refine_1.refine_1.refine_1.refine_1.refine_1.refine_1.refine_1.refine_1.refine_1.refine_1.refine_1.refine_1.refine_1.refine_2 => exact maps_rowed
  case refine_1.refine_1.refine_1.refine_1.refine_1.refine_1.refine_1.refine_2 => exact stops_heard
  all_goals (as_aux_lemma => kernel_rfl)
theorem proved : Rows.FnExactReplayTextSaid :=
  OpenClaim.holds_of_cond 12 Try.f12 rfl rfl rfl rfl rfl rfl rfl ⟨rfl, rfl, rfl, rfl, rfl⟩ rfl rfl rfl rfl rfl (by kernel_rfl) Try.func12 closed
    (of_decide_eq_true (by kernel_rfl)) (by unfold Func.isWrapper; first | (rw [if_pos (by decide +kernel)]; kernel_rfl) | (rw [if_neg (by decide +kernel)]; exact ⟨rfl, rfl⟩))
    (fun os started H enc _ F => by rw [OpenClaim.pre_eq_preRow]; exact lifted os started H enc F)
#print axioms proved
end Go.Proofs.Ytekdodlkimgbhaa.fnExactReplayText
