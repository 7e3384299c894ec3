/-
  Proved: for every list of texts and every separator, the law FnExactJoinStrings returns true, and both read as they did. No condition.
-/
import Derived.Test.YtdbkciffdfdfbaaJoin
namespace Go.Proofs.Ytdbkciffdfdfbaa.fnExactJoinStrings
open Go.ChangeShapes Go.WideShapes Go.ChangeAt Go.RowKit Plain
open Go.ChangeMaps (open_string shut_string)

theorem below3 {w a b : World} (h : Below w.heap.size w a) (k : Below a.heap.size a b) : Below w.heap.size w b := h.trans (k.mono h.size)
theorem draws3 {w a b : World} (h : Below w.heap.size w a) (k : ∃ n, b = a.drewN n) : Below w.heap.size w b := by
  obtain ⟨n, rfl⟩ := k
  exact below3 h (drewN_below _ _)

set_option maxHeartbeats 1000000 in
theorem core (v : Value) (ss : List ByteArray) (sep : ByteArray) (w : World) (hr : Hid (StrRow w v ss)) (hm : ∀ s ∈ ss, s.size ≤ maxLen) (hl : ss.length ≤ maxLen) (hs : sep.size ≤ 1048576) :
    Calls Try.prog 5 #[v, .string sep] w fun e w' => e = .returned (.bool true) ∧ Below w.heap.size w w' := by
  have HM := Lib.hid hm
  have HL := Lib.hid hl
  clear hm hl
  go_enter Try.func5, Try.ntmps5
  go_wp2_with fail
  refine (sz_any v ss _ hr.out HM.out HL.out).mono ?_
  rintro e w1 ⟨⟨n, rfl, hsz⟩, rfl⟩
  by_cases hneg : n < 0
  · clear hsz
    go_wp2
    go_ret
    exact ⟨rfl, Below.refl _ _⟩
  · have ht := hsz (by omega)
    have hn : ss.length ≤ 1048576 := by omega
    have htt : total ss ≤ 1048576 := by omega
    have h0 : 0 ≤ n := by omega
    clear hsz ht hneg
    go_wp2_with fail
    refine (to_any v ss _ hr.out hn).mono ?_
    rintro e w1 ⟨g, rfl, ho, hb1⟩
    have HR1 := Lib.hid (StrRow.of_own ho)
    have HB1 := Lib.hid hb1
    clear hb1 ho
    by_cases h1 : sep.size = 1
    · have H1 := Lib.hid h1
      have hp : 0 < sep.size := by omega
      clear h1
      go_wp2_with fail
      refine (specJoin_any _ ss sep _ HR1.out hp H1 hn htt).mono ?_
      rintro e w2 (⟨hok, rfl, hb2⟩ | ⟨hok, rfl, hb2⟩)
      · have HOK := Lib.hid hok
        have HB2 := Lib.hid (below3 HB1.out hb2)
        clear hok hb2
        go_wp2_with fail
        refine (to_any _ ss _ (hr.out.below HB2.out) hn).mono ?_
        rintro e w3 ⟨g2, rfl, ho2, hb3⟩
        have HR2 := Lib.hid (StrRow.of_own ho2)
        have HB3 := Lib.hid (below3 HB2.out hb3)
        clear hb3 ho2
        go_wp2_with fail
        refine (implJoin_any _ ss sep _ HR2.out hp H1 hn htt).mono ?_
        rintro e w4 (⟨_, rfl, hb4⟩ | ⟨hno, rfl, hb4⟩)
        · have HR3 := Lib.hid (HR2.out.below hb4)
          have HB4 := Lib.hid (below3 HB3.out hb4)
          clear hb4
          go_wp2_with fail
          refine (to_any _ ss _ (hr.out.below HB4.out) hn).mono ?_
          rintro e w5 ⟨g3, rfl, ho3, hb5⟩
          have HR4 := Lib.hid (StrRow.of_own ho3)
          have HR5 := Lib.hid (HR3.out.below hb5)
          have HB5 := Lib.hid (below3 HB4.out hb5)
          clear hb5 ho3
          go_wp2_with fail
          refine (eqS_yes _ _ ss _ HR5.out HR4.out hn).mono ?_
          rintro e w6 ⟨rfl, hb6⟩
          have HB6 := Lib.hid (draws3 HB5.out hb6)
          clear hb6
          go_wp2
          go_ret
          exact ⟨rfl, HB6.out⟩
        · exact absurd HOK.out hno
      · have HNO := Lib.hid hok
        have HB2 := Lib.hid (below3 HB1.out hb2)
        clear hok hb2
        go_wp2_with fail
        refine (to_any _ ss _ (hr.out.below HB2.out) hn).mono ?_
        rintro e w3 ⟨g2, rfl, ho2, hb3⟩
        have HR2 := Lib.hid (StrRow.of_own ho2)
        have HB3 := Lib.hid (below3 HB2.out hb3)
        clear hb3 ho2
        go_wp2_with fail
        refine (implJoin_any _ ss sep _ HR2.out hp H1 hn htt).mono ?_
        rintro e w4 (⟨hyes, rfl, hb4⟩ | ⟨_, rfl, hb4⟩)
        · exact absurd hyes HNO.out
        · have HR3 := Lib.hid (HR2.out.below hb4)
          have HB4 := Lib.hid (below3 HB3.out hb4)
          clear hb4
          go_wp2_with fail
          refine (to_any _ ss _ (hr.out.below HB4.out) hn).mono ?_
          rintro e w5 ⟨g3, rfl, ho3, hb5⟩
          have HR4 := Lib.hid (StrRow.of_own ho3)
          have HR5 := Lib.hid (HR3.out.below hb5)
          have HB5 := Lib.hid (below3 HB4.out hb5)
          clear hb5 ho3
          go_wp2_with fail
          refine (eqS_yes _ _ ss _ HR5.out HR4.out hn).mono ?_
          rintro e w6 ⟨rfl, hb6⟩
          have HB6 := Lib.hid (draws3 HB5.out hb6)
          clear hb6
          go_wp2
          go_ret
          exact ⟨rfl, HB6.out⟩
    · have H1 := Lib.hid h1
      clear h1
      go_wp2_with fail
      refine (specJoin_sep _ ss sep _ HR1.out (by unfold maxLen; omega) H1.out).mono ?_
      rintro e w2 ⟨rfl, hb2⟩
      have HB2 := Lib.hid (below3 HB1.out hb2)
      clear hb2
      go_wp2_with fail
      refine (to_any _ ss _ (hr.out.below HB2.out) hn).mono ?_
      rintro e w3 ⟨g2, rfl, ho2, hb3⟩
      have HR2 := Lib.hid (StrRow.of_own ho2)
      have HB3 := Lib.hid (below3 HB2.out hb3)
      clear hb3 ho2
      go_wp2_with fail
      refine (implJoin_sep _ ss sep _ HR2.out hn H1.out).mono ?_
      rintro e w4 ⟨rfl, hb4⟩
      have HR3 := Lib.hid (HR2.out.below hb4)
      have HB4 := Lib.hid (below3 HB3.out hb4)
      clear hb4
      go_wp2_with fail
      refine (to_any _ ss _ (hr.out.below HB4.out) hn).mono ?_
      rintro e w5 ⟨g3, rfl, ho3, hb5⟩
      have HR4 := Lib.hid (StrRow.of_own ho3)
      have HR5 := Lib.hid (HR3.out.below hb5)
      have HB5 := Lib.hid (below3 HB4.out hb5)
      clear hb5 ho3
      go_wp2_with fail
      refine (eqS_yes _ _ ss _ HR5.out HR4.out hn).mono ?_
      rintro e w6 ⟨rfl, hb6⟩
      have HB6 := Lib.hid (draws3 HB5.out hb6)
      clear hb6
      go_wp2
      go_ret
      exact ⟨rfl, HB6.out⟩

theorem walk (w : World) (_ : w.ShapedOpen Try.prog) (a0 : Option Addr) (len0 cap0 : Nat) (z0 : List ByteArray) (w0 : IsStrs w a0 len0 cap0 z0) (a1 : ByteArray) (w1 : a1.size ≤ maxLen) :
    Calls Try.prog 5 #[.slice a0 len0 cap0, .string a1] w fun e w' => e = .returned (.bool true) ∧ Below w.heap.size w w' := by
  by_cases hs : a1.size ≤ 1048576
  · obtain ⟨ss, hr, hm, hl⟩ := w0.row
    exact core _ ss a1 w hr hm hl hs
  · have h2 : 1048576 < a1.size := by omega
    unfold maxLen at w1
    clear w0
    go_enter Try.func5, Try.ntmps5
    go_wp2
    go_ret
    exact ⟨rfl, Below.refl _ _⟩

theorem laidOut : laidOutB Try.prog = true := by kernel_rfl
noncomputable def laidWorld (os : Os) : World := World.holding Try.prog os ⟨#[], #[], []⟩
theorem laid_met (os : Os) : laidMet Try.prog Rows.fnExactJoinStringsRow.laid ((laidWorld os).forCall (fun _ _ => 0) ⟨#[], #[.slice none 0 0, .string ByteArray.empty], []⟩).memory := laidMet_of_run' 8 (by kernel_rfl) (by kernel_rfl)
theorem reads (os : Os) {H : Type} (enc : TypeId × Value → H) : ∃ places, DataW.whole enc Try.prog ((laidWorld os).forCall (fun _ _ => 0) ⟨#[], #[.slice none 0 0, .string ByteArray.empty], []⟩).memory Try.f5.params.toList Rows.fnExactJoinStringsSpec.vars false #[.slice none 0 0, .string ByteArray.empty].toList 8 = some ([.nil, .lit (.string [])], [], places) :=
  ⟨[], by kernel_rfl⟩
set_option linter.unusedVariables false in
set_option maxRecDepth 100000 in
theorem lifted (os : Os) (started : os.Started) (H : Type) (enc : TypeId × Value → H) (F : Stop.Interp) :
    ReturnsInHanded {} Try.checked os 5 .any ((OpenSpec.ofChange Rows.fnExactJoinStringsSpec).preRow enc Try.prog Try.f5 Rows.fnExactJoinStringsRow.domain false Rows.fnExactJoinStringsRow.laid) (((OpenSpec.ofChange Rows.fnExactJoinStringsSpec).at F).post enc Try.prog Try.f5 false true false false) := by
  obtain ⟨places, hx⟩ := reads os enc
  refine returnsInHanded_of_row (C := Try.checked) (s := (OpenSpec.ofChange Rows.fnExactJoinStringsSpec)) own started (by kernel_rfl) Try.func5
    (witness_row_at (enc := enc) (C := Try.checked) false (laidWorld os) #[.slice none 0 0, .string ByteArray.empty] rfl (by kernel_rfl) (by kernel_rfl) (by kernel_rfl)
      (OpenSpec.preRow_of_cond 8 hx (by kernel_rfl) (fun k hk => by cases hk) (by kernel_rfl) (laid_met os))) ?_
  intro W base args ds gs before hval0 hW _ hcond hsz hL hsh _
  have hval : ∀ (j : Nat) t v, Try.f5.params[j]? = some t → args[j]? = some v → Value.okWide Try.prog W .any base t v := hval0
  have hW' := hW
  obtain ⟨p, q, hA0, hV, rfl, hfz, hnd⟩ := hW
  have hA : DataW.TrodAll enc Try.prog W 0 (fun _ => true) true Try.f5.params.toList args.toList ds p := hA0
  rw [Try.params5] at hA hval
  obtain ⟨v0, vs0, d0, ds0, p0, q0, hargs, rfl, rfl, h0, r0⟩ := trodAll_cons hA
  obtain ⟨v1, vs1, d1, ds1, p1, q1, rfl, rfl, rfl, h1, r1⟩ := trodAll_cons r0
  obtain ⟨rfl, rfl, rfl⟩ := trodAll_nil r1
  obtain rfl : args = #[v0, v1] := by cases args; simp_all
  obtain ⟨rfl, rfl⟩ := trodVars_none hV
  obtain ⟨a0, len0, cap0, rfl⟩ := okWide_slice Try.underlying26 (hval 0 26 v0 rfl rfl)
  have k0 := h0
  have lt0 : ∀ x ∈ p0, x.block < W.heap.size := by obtain ⟨m, hm⟩ := k0; exact DataW.trod_lt m _ _ _ hm
  obtain ⟨z0, w0⟩ : ∃ zs, IsStrs W a0 len0 cap0 zs := by
    obtain ⟨fuel, hf⟩ := h0
    rcases open_strings Try.underlying26 Try.underlying9 (by kernel_rfl) hf with ⟨hcs, _⟩ | ⟨x, l, c, zs, hcs, _, hl, hm, hz, _, hcell, hwz⟩
    · simp [Value.cells] at hcs; obtain ⟨rfl, rfl, rfl⟩ := hcs; exact ⟨[], .inl ⟨rfl, rfl, rfl, rfl⟩⟩
    · simp [Value.cells] at hcs; obtain ⟨rfl, rfl, rfl⟩ := hcs; exact ⟨zs, .inr ⟨_, rfl, hl, hm, by simpa using hz, hcell, hwz⟩⟩
  obtain ⟨a1, rfl, rfl, rfl, w1⟩ := open_string Try.underlying9 (hval 1 9 v1 rfl rfl) h1
  clear hA0 hval0
  have hwalk : Calls Try.prog 5 #[.slice a0 len0 cap0, .string a1] W fun e w' => e = .returned (.bool true) ∧ Below W.heap.size W w' := walk W hsh a0 len0 cap0 z0 w0 a1 w1
  refine hwalk.mono fun e W' ⟨he, bel⟩ => ?_
  subst he
  exact ⟨_, rfl, _, _, _, [], _, [], hW', trodAll_mk1 (shut_bool Try.underlying4 _), (trodAll_cons_mk (Below.trod laidOut (by kernel_rfl) (of_decide_eq_true (by kernel_rfl)) k0 bel lt0) (trodAll_cons_mk (shut_string Try.underlying9 w1) trodAll_mk0)), rfl, bel.frame _, fun h => by cases h⟩
theorem proved : Rows.FnExactJoinStringsSaid :=
  OpenClaim.holds_of_cond 5 Try.f5 rfl rfl rfl rfl rfl rfl rfl ⟨rfl, rfl, rfl, rfl, rfl⟩ rfl rfl rfl rfl rfl (by kernel_rfl) Try.func5 (by kernel_rfl)
    (of_decide_eq_true (by kernel_rfl)) (by unfold Func.isWrapper; first | (rw [if_pos (by decide +kernel)]; kernel_rfl) | (rw [if_neg (by decide +kernel)]; exact ⟨rfl, rfl⟩))
    (fun os started H enc _ F => by rw [OpenClaim.pre_eq_preRow]; exact lifted os started H enc F)
#print axioms proved
end Go.Proofs.Ytdbkciffdfdfbaa.fnExactJoinStrings
