/-
  Proved: for every number and every list of numbers, the law FnExactReachRule returns true, and the list reads as it did. No condition.
-/
import Derived.Test.YtblcojacmjbjcaaRchSpecTop
import Derived.Test.YtblcojacmjbjcaaIntsIn
import Derived.Test.YtblcojacmjbjcaaBaseA
import Derived.Test.YtblcojacmjbjcaaClosed
namespace Go.Proofs.Ytblcojacmjbjcaa.fnExactReachRule
open Go.ChangeShapes Go.WideShapes Go.ChangeAt Go.RowKit Plain
attribute [local go_sem] store_new
set_option linter.unusedVariables false
set_option linter.unusedSimpArgs false

theorem below3 {w a b : World} (h : Below w.heap.size w a) (k : Below a.heap.size a b) : Below w.heap.size w b := h.trans (k.mono h.size)
theorem drew_below (w : World) (n : Nat) : Below w.heap.size w (w.drewN n) := ⟨rfl, rfl, rfl, Nat.le_refl _, fun _ _ => rfl⟩
set_option maxHeartbeats 400000 in
theorem markI_away (g cap n base : Nat) (h : Nat → Int) (w : World) (ho : w.ownsRow base 3 1 (.slice (some ⟨g, 0, none⟩) n cap) n (mk n h).toList) (hn : n ≤ 1048576) :
    Calls Try.prog 31 #[.slice (some ⟨g, 0, none⟩) n cap, .int .i64 1] w fun e w' => e = .returned (.int .i64 (1 + n : Nat)) ∧
      w'.ownsRow base 3 1 (.slice (some ⟨g, 0, none⟩) n cap) n (mk n fun j => ((1 + j : Nat) : Int)).toList ∧ w.grownBy w' (some g) := by
  have hgb : base ≤ g := (ho.lt g rfl).1
  have HO : Hid (w.ownsRow base 3 1 (.slice (some ⟨g, 0, none⟩) n cap) n (mk n (mixI h 0)).toList) := by
    show w.ownsRow _ _ _ _ _ _
    rw [mixI_zero]; exact ho
  clear ho
  go_enter Try.func31, Try.ntmps31
  go_wp2
  go_loopw [1, 5] (fun q i wr => ∃ k : Nat, k ≤ n ∧ i = .int .i64 k ∧ q = .int .i64 (1 + k : Nat) ∧ wr.ownsRow base 3 1 (.slice (some ⟨g, 0, none⟩) n cap) n (mk n (mixI h k)).toList ∧ w.grownBy wr (some g)) (fun _ i _ => n - (intOf i).toNat)
  case atStart => exact ⟨0, Nat.zero_le _, rfl, rfl, HO.out, rfl, rfl, rfl, Nat.le_refl _, fun _ _ _ => rfl⟩
  case round =>
    obtain ⟨k, hk, rfl, rfl, hown, hbel⟩ := hrel
    have HB := Lib.hid hbel
    clear hbel
    by_cases hlt : k < n
    · have hd : wr.cell? ⟨g, k, none⟩ = some (.int .i64 (mixI h k k)) := by
        rw [hown.cellAt k (by omega), Array.getElem?_toList]; exact mk_get _ hlt
      have hf := hown.frozenAt k
      have hst := hown.stored k (.int .i64 ((1 + k : Nat) : Int))
      rw [← Array.toList_setIfInBounds, mk_set _ _ hlt, mixI_step] at hst
      have HST := Lib.hid hst
      generalize mixI h k k = u0 at hd
      clear hst hown
      go_wp2
      go_roundw
      case rel => exact ⟨k + 1, by omega, by go_num, by go_num, HST.out.1, World.grownBy.trans HB.out HST.out.2⟩
      case measure => simp [intOf]; omega
    · obtain rfl : k = n := by omega
      have HW := Lib.hid hown
      clear hown
      go_wp2
      go_ret
      refine ⟨rfl, ?_, HB.out⟩
      have := HW.out
      rw [mixI_end] at this
      exact this
theorem rchV_len (r : Int) (L : List Int) : (rchV r L).length ≤ 1048576 := by
  unfold rchV
  split
  · rename_i h
    have := rsL_len (mgF r) 5 L [] h.2.1
    have e : rfB 5 ≤ 1048576 := by decide
    simp at this
    omega
  · simp
set_option maxHeartbeats 2000000 in
set_option maxRecDepth 20000 in
theorem walk (w : World) (_ : w.ShapedOpen Try.prog) (r : Int) (_ : (Lit.int .i64 r).wf = true) (a : Option Addr) (len cap : Nat) (z : List Int) (hz : IsRow .i64 w a len cap z) :
    Calls Try.prog 14 #[.int .i64 r, .slice a len cap] w fun e w' => e = .returned (.bool true) ∧ Below w.heap.size w w' := by
  have HB : Hid (Below w.heap.size w w) := Lib.hid (Below.refl _ _)
  obtain ⟨zs, hzr, hl⟩ := hz.zrow
  have HZ := Lib.hid hzr
  clear hzr hz
  by_cases hlen : len ≤ 1048576
  · have hzl : zs.length ≤ 1048576 := by omega
    have hlen2 : (len : Int) ≤ 1048576 := by omega
    have HTI : ∀ W, ZRow W (.slice a len cap) zs → Calls Try.prog 46 #[.slice a len cap] W fun e w' => ∃ g, e = .returned (.slice (some ⟨g, 0, none⟩) zs.length zs.length) ∧ w'.ownsRow W.heap.size 3 1 (.slice (some ⟨g, 0, none⟩) zs.length zs.length) zs.length (mk zs.length fun i => zs.getD i 0).toList ∧ Below W.heap.size W w' :=
      fun W q => (toInts_any _ zs W q hzl).mono fun e w' ⟨g, h1, h2, h3⟩ => ⟨g, h1, by unfold OwnsInts at h2; rw [ints_mk] at h2; exact h2, h3⟩
    have HSP : ∀ W g, IRow W (.slice (some ⟨g, 0, none⟩) zs.length zs.length) zs.length (fun i => zs.getD i 0) → Calls Try.prog 45 #[.int .i64 r, .slice (some ⟨g, 0, none⟩) zs.length zs.length] W fun e w' => ∃ g2 c2, e = .returned (.tuple #[.slice (some ⟨g2, 0, none⟩) (rchV r zs).length c2, .bool (decide (rchOk r zs))]) ∧ IRow w' (.slice (some ⟨g2, 0, none⟩) (rchV r zs).length c2) (rchV r zs).length (fun i => (rchV r zs).getD i 0) ∧ Below W.heap.size W w' :=
      fun W g q => specRch_any r zs g _ W q hzl
    have HIM : ∀ W g, IRow W (.slice (some ⟨g, 0, none⟩) zs.length zs.length) zs.length (fun i => zs.getD i 0) → Calls Try.prog 47 #[.int .i64 r, .slice (some ⟨g, 0, none⟩) zs.length zs.length] W fun e w' => ∃ g2 c2, e = .returned (.tuple #[.slice (some ⟨g2, 0, none⟩) (rchV r zs).length c2, .bool (decide (rchOk r zs))]) ∧ w'.ownsRow W.heap.size 3 1 (.slice (some ⟨g2, 0, none⟩) (rchV r zs).length c2) (rchV r zs).length (mk (rchV r zs).length fun i => (rchV r zs).getD i 0).toList ∧ Below W.heap.size W w' :=
      fun W g q => (implRch_any r zs g _ W q hzl).mono fun e w' ⟨g2, c2, h1, h2, h3⟩ => ⟨g2, c2, h1, by rw [ints_mk] at h2; exact h2, h3⟩
    have hnv := rchV_len r zs
    have hn : ¬ (1048576 < len) := by omega
    clear hlen
    generalize hZ : zs.length = n at *
    generalize (fun i => zs.getD i 0) = h at *
    generalize (fun i => (rchV r zs).getD i 0) = hv at *
    generalize (rchV r zs).length = nv at *
    generalize decide (rchOk r zs) = ok at *
    have HTI := Lib.hid HTI
    have HSP := Lib.hid HSP
    have HIM := Lib.hid HIM
    clear hl hZ
    go_enter Try.func14, Try.ntmps14
    go_wp2_with fail
    refine (HTI.out _ HZ.out).mono ?_
    rintro e w1 ⟨gs, rfl, r1, hb⟩
    have R1 := Lib.hid (IRow.of_own r1)
    have HZ := Lib.hid (HZ.out.below hb)
    have HB : Hid (Below w.heap.size w w1) := hb
    clear hb r1
    go_wp2_with fail
    refine (HSP.out _ _ R1.out).mono ?_
    clear R1
    rintro e w2 ⟨g0, c0, rfl, R0, hb⟩
    have R0 := Lib.hid R0
    have HZ := Lib.hid (HZ.out.below hb)
    have HB : Hid (Below w.heap.size w w2) := below3 HB.out hb
    clear hb
    go_wp2_with fail
    refine (HTI.out _ HZ.out).mono ?_
    rintro e w3 ⟨gx, rfl, hx, hb⟩
    have X := Lib.hid hx
    have hgx := (hx.lt gx rfl)
    have B : Hid (Below w2.heap.size w2 w3) := hb
    clear hb hx
    go_wp2_with fail
    refine (HIM.out _ _ (IRow.of_own X.out)).mono ?_
    rintro e w4 ⟨g2, c2, rfl, ho, hb⟩
    have hg2 := (ho.lt g2 rfl)
    have G := Lib.hid ho
    have X : Hid (w4.ownsRow w2.heap.size 3 1 (.slice (some ⟨gx, 0, none⟩) n n) n (mk n h).toList) := owns_below X.out hb
    have hsB := B.out.size
    have B : Hid (Below w2.heap.size w2 w4) := below3 B.out hb
    clear hb ho
    have hne : g2 ≠ gx := by omega
    go_wp2_with fail
    refine (eqI_yes _ _ nv hv _ (IRow.of_own G.out) (R0.out.below B.out) hnv).mono ?_
    rintro e w5 ⟨rfl, k, rfl⟩
    have G : Hid ((w4.drewN k).ownsRow w3.heap.size 3 1 (.slice (some ⟨g2, 0, none⟩) nv c2) nv (mk nv hv).toList) := owns_below G.out (drew_below _ k)
    have X : Hid ((w4.drewN k).ownsRow w2.heap.size 3 1 (.slice (some ⟨gx, 0, none⟩) n n) n (mk n h).toList) := owns_below X.out (drew_below _ k)
    have B : Hid (Below w2.heap.size w2 (w4.drewN k)) := below3 B.out (drew_below _ k)
    generalize w4.drewN k = w6 at *
    cases ok <;> (
    go_wp2_with fail
    refine (HTI.out _ (HZ.out.below B.out)).mono ?_
    rintro e w7 ⟨gy, rfl, hy, hb⟩
    have G : Hid (w7.ownsRow w3.heap.size 3 1 (.slice (some ⟨g2, 0, none⟩) nv c2) nv (mk nv hv).toList) := owns_below G.out hb
    have X : Hid (w7.ownsRow w2.heap.size 3 1 (.slice (some ⟨gx, 0, none⟩) n n) n (mk n h).toList) := owns_below X.out hb
    have B : Hid (Below w2.heap.size w2 w7) := below3 B.out hb
    have Y := Lib.hid (IRow.of_own hy)
    clear hb hy
    go_wp2_with fail
    refine (eqI_yes _ _ n h _ (IRow.of_own X.out) Y.out hzl).mono ?_
    rintro e w8 ⟨rfl, k2, rfl⟩
    have G : Hid ((w7.drewN k2).ownsRow w3.heap.size 3 1 (.slice (some ⟨g2, 0, none⟩) nv c2) nv (mk nv hv).toList) := owns_below G.out (drew_below _ k2)
    have X : Hid ((w7.drewN k2).ownsRow w2.heap.size 3 1 (.slice (some ⟨gx, 0, none⟩) n n) n (mk n h).toList) := owns_below X.out (drew_below _ k2)
    have B : Hid (Below w2.heap.size w2 (w7.drewN k2)) := below3 B.out (drew_below _ k2)
    clear Y
    generalize w7.drewN k2 = w9 at *
    go_wp2_with fail
    refine (markI_away gx n n w2.heap.size h _ X.out hzl).mono ?_
    rintro e w10 ⟨rfl, ho, hgr⟩
    have G : Hid (w10.ownsRow w3.heap.size 3 1 (.slice (some ⟨g2, 0, none⟩) nv c2) nv (mk nv hv).toList) := World.ownsRow.kept G.out hgr (Or.inr (fun q => hne (by cases q; rfl)))
    have B : Hid (Below w2.heap.size w2 w10) := B.out.grown hgr B.out.size (fun m hm => by cases hm; exact hgx.1)
    clear ho hgr X
    go_wp2_with fail
    refine (eqI_yes _ _ nv hv _ (IRow.of_own G.out) (R0.out.below B.out) hnv).mono ?_
    rintro e w11 ⟨rfl, k3, rfl⟩
    have G : Hid ((w10.drewN k3).ownsRow w3.heap.size 3 1 (.slice (some ⟨g2, 0, none⟩) nv c2) nv (mk nv hv).toList) := owns_below G.out (drew_below _ k3)
    have B : Hid (Below w2.heap.size w2 (w10.drewN k3)) := below3 B.out (drew_below _ k3)
    generalize w10.drewN k3 = w12 at *
    go_wp2_with fail
    refine (markI_away g2 c2 nv w3.heap.size hv _ G.out hnv).mono ?_
    rintro e w13 ⟨rfl, ho, hgr⟩
    have R2 := Lib.hid (IRow.of_own ho)
    have B : Hid (Below w2.heap.size w2 w13) := B.out.grown hgr B.out.size (fun m hm => by cases hm; omega)
    clear ho hgr G
    go_wp2_with fail
    refine (heldI_row _ nv _ R2.out hnv).mono ?_
    rintro e w14 ⟨rfl, rfl⟩
    go_wp2_with fail
    refine (HTI.out _ (HZ.out.below B.out)).mono ?_
    rintro e w15 ⟨gz, rfl, hy, hb⟩
    have R2 := Lib.hid (R2.out.below hb)
    have B : Hid (Below w2.heap.size w2 w15) := below3 B.out hb
    have Y := Lib.hid (IRow.of_own hy)
    clear hb hy
    go_wp2_with fail
    refine (HIM.out _ _ Y.out).mono ?_
    rintro e w16 ⟨g3, c3, rfl, ho, hb⟩
    have R3 := Lib.hid (IRow.of_own ho)
    have R2 := Lib.hid (R2.out.below hb)
    have B : Hid (Below w2.heap.size w2 w16) := below3 B.out hb
    clear hb ho Y
    go_wp2_with fail
    refine (eqI_yes _ _ nv hv _ R3.out (R0.out.below B.out) hnv).mono ?_
    rintro e w17 ⟨rfl, k4, rfl⟩
    have R2 := Lib.hid (R2.out.below (drew_below _ k4))
    have B : Hid (Below w2.heap.size w2 (w16.drewN k4)) := below3 B.out (drew_below _ k4)
    generalize w16.drewN k4 = w18 at *
    go_wp2_with fail
    refine (heldI_row _ nv _ R2.out hnv).mono ?_
    rintro e w19 ⟨rfl, rfl⟩
    have HB : Hid (Below w.heap.size w w18) := below3 HB.out B.out
    go_wp2_with fail
    go_ret
    exact ⟨rfl, HB.out⟩)
  · have hn : 1048576 < len := by omega
    have hn2 : 1048576 < (len : Int) := by omega
    go_enter Try.func14, Try.ntmps14
    go_wp2_with fail
    go_ret
    exact ⟨rfl, HB.out⟩

noncomputable def laidWorld (os : Os) : World := World.holding Try.prog os ⟨#[], #[], []⟩
theorem laid_met (os : Os) : laidMet Try.prog Rows.fnExactReachRuleRow.laid ((laidWorld os).forCall (fun _ _ => 0) ⟨#[], #[.int .i64 0, .slice none 0 0], []⟩).memory := laidMet_of_run' 8 (by kernel_rfl) (by kernel_rfl)
theorem reads (os : Os) {H : Type} (enc : TypeId × Value → H) : ∃ places, DataW.whole enc Try.prog ((laidWorld os).forCall (fun _ _ => 0) ⟨#[], #[.int .i64 0, .slice none 0 0], []⟩).memory Try.f14.params.toList Rows.fnExactReachRuleSpec.vars false #[.int .i64 0, .slice none 0 0].toList 8 = some ([.lit (.int .i64 0), .nil], [], places) :=
  ⟨[], by kernel_rfl⟩
set_option linter.unusedVariables false in
set_option maxRecDepth 100000 in
theorem lifted (os : Os) (started : os.Started) (H : Type) (enc : TypeId × Value → H) (F : Stop.Interp) :
    ReturnsInHanded {} Try.checked os 14 .any ((OpenSpec.ofChange Rows.fnExactReachRuleSpec).preRow enc Try.prog Try.f14 Rows.fnExactReachRuleRow.domain false Rows.fnExactReachRuleRow.laid) (((OpenSpec.ofChange Rows.fnExactReachRuleSpec).at F).post enc Try.prog Try.f14 false true false false) := by
  obtain ⟨places, hx⟩ := reads os enc
  refine returnsInHanded_of_row (C := Try.checked) (s := (OpenSpec.ofChange Rows.fnExactReachRuleSpec)) own started (by kernel_rfl) Try.func14
    (witness_row_at (enc := enc) (C := Try.checked) false (laidWorld os) #[.int .i64 0, .slice none 0 0] rfl (by kernel_rfl) (by kernel_rfl) (by kernel_rfl)
      (OpenSpec.preRow_of_cond 8 hx (by kernel_rfl) (fun k hk => by cases hk) (by kernel_rfl) (laid_met os))) ?_
  intro W base args ds gs before hval0 hW _ hcond hsz hL hsh _
  have hval : ∀ (j : Nat) t v, Try.f14.params[j]? = some t → args[j]? = some v → Value.okWide Try.prog W .any base t v := hval0
  have hW' := hW
  obtain ⟨p, q, hA0, hV, rfl, hfz, hnd⟩ := hW
  have hA : DataW.TrodAll enc Try.prog W 0 (fun _ => true) true Try.f14.params.toList args.toList ds p := hA0
  rw [Try.params14] at hA hval
  obtain ⟨v0, vs0, d0, ds0, p0, q0, hargs, rfl, rfl, h0, r0⟩ := trodAll_cons hA
  obtain ⟨v1, vs1, d1, ds1, p1, q1, rfl, rfl, rfl, h1, r1⟩ := trodAll_cons r0
  obtain ⟨rfl, rfl, rfl⟩ := trodAll_nil r1
  obtain rfl : args = #[v0, v1] := by cases args; simp_all
  obtain ⟨rfl, rfl⟩ := trodVars_none hV
  obtain ⟨a0, rfl, rfl, rfl, w0⟩ := open_int Try.underlying3 (hval 0 3 v0 rfl rfl) h0
  obtain ⟨a1, len1, cap1, rfl⟩ := okWide_slice Try.underlying43 (hval 1 43 v1 rfl rfl)
  have k1 := h1
  have lt1 : ∀ x ∈ p1, x.block < W.heap.size := by obtain ⟨m, hm⟩ := k1; exact DataW.trod_lt m _ _ _ hm
  obtain ⟨z1, w1⟩ : ∃ zs, IsRow .i64 W a1 len1 cap1 zs := by
    obtain ⟨fuel, hf⟩ := h1
    rcases open_ints Try.underlying43 Try.underlying3 (by kernel_rfl) hf with ⟨hcs, _⟩ | ⟨x, l, c, zs, hcs, _, hl, hm, hz, _, hcell, hwz⟩
    · simp [Value.cells] at hcs; obtain ⟨rfl, rfl, rfl⟩ := hcs; exact ⟨[], .inl ⟨rfl, rfl, rfl, rfl⟩⟩
    · simp [Value.cells] at hcs; obtain ⟨rfl, rfl, rfl⟩ := hcs; exact ⟨zs, .inr ⟨_, rfl, hl, hm, by simpa using hz, hcell, hwz⟩⟩
  clear hA0 hval0
  have hwalk : Calls Try.prog 14 #[.int .i64 a0, .slice a1 len1 cap1] W fun e w' => e = .returned (.bool true) ∧ Below W.heap.size W w' := walk W hsh a0 w0 a1 len1 cap1 z1 w1
  refine hwalk.mono fun e W' ⟨he, bel⟩ => ?_
  subst he
  exact ⟨_, rfl, _, _, _, [], _, [], hW', trodAll_mk1 (shut_bool Try.underlying4 _), (trodAll_cons_mk (shut_int Try.underlying3 w0) (trodAll_cons_mk (Below.trod laidOut (by kernel_rfl) (of_decide_eq_true (by kernel_rfl)) k1 bel lt1) trodAll_mk0)), rfl, bel.frame _, fun h => by cases h⟩
set_option maxHeartbeats 8000000 in
theorem closed : joinedFacts Try.pinned.checked.prog 14 Try.f14 ((OpenSpec.ofChange Rows.fnExactReachRuleSpec)).bare Rows.fnExactReachRuleRow = true := by
  unfold joinedFacts
  repeat' with_reducible refine and_mk ?_ ?_
  case refine_1.refine_1.refine_1.refine_1.refine_1.refine_1.refine_2 => exact enters
  case refine_1.refine_1.refine_1.refine_1.refine_1.refine_2 => exact (show (Rows.fnExactReachRuleRow.lifted == Try.prog.liftsFinal) = true by rw [final_no]; rfl)
  case refine_1.refine_1.refine_1.refine_1.refine_2 => exact (show (Try.prog.make == some Rows.fnExactReachRuleRow.make) = true by rw [make_cut]; rfl)
  case refine_1.refine_1.refine_1.refine_1.refine_1.refine_1.refine_1.refine_1.refine_1.refine_1.refine_1.refine_1.refine_1.refine_1.refine_1.refine_1.refine_1.refine_1.refine_1.refine_1.refine_1.refine_1.refine_1.refine_1.refine_1.refine_1.refine_1.refine_1.refine_1.refine_1.refine_2 => exact laidOut
  case refine_1.refine_1.refine_1.refine_1.refine_1.refine_1.refine_1.refine_1.refine_1.refine_1.refine_1.refine_1.refine_1.refine_1.refine_1.refine_1.refine_1.refine_1.refine_1.refine_1.refine_1.refine_1.refine_1.refine_1.refine_1.refine_1.refine_1.refine_1.refine_1.refine_2 => exact maps_rowed
  case refine_1.refine_1.refine_1.refine_1.refine_1.refine_1.refine_1.refine_2 => exact stops_heard
  all_goals (as_aux_lemma => kernel_rfl)
theorem proved : Rows.FnExactReachRuleSaid :=
  OpenClaim.holds_of_cond 14 Try.f14 rfl rfl rfl rfl rfl rfl rfl ⟨rfl, rfl, rfl, rfl, rfl⟩ rfl rfl rfl rfl rfl (by kernel_rfl) Try.func14 closed
    (of_decide_eq_true (by kernel_rfl)) (by unfold Func.isWrapper; first | (rw [if_pos (by decide +kernel)]; kernel_rfl) | (rw [if_neg (by decide +kernel)]; exact ⟨rfl, rfl⟩))
    (fun os started H enc _ F => by rw [OpenClaim.pre_eq_preRow]; exact lifted os started H enc F)
#print axioms proved
end Go.Proofs.Ytblcojacmjbjcaa.fnExactReachRule
