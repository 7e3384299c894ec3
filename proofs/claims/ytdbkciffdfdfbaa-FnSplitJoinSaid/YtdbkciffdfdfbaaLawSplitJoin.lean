/-
  Proved: for every code, the law FnSplitJoin returns true, and the code reads as it did. No condition.
-/
import Derived.Test.YtdbkciffdfdfbaaDrawJoin
import Derived.Test.YtdbkciffdfdfbaaBackPlain
import Derived.Test.YtdbkciffdfdfbaaJoin
import Derived.Test.YtdbkciffdfdfbaaSplitImpl
namespace Go.Proofs.Ytdbkciffdfdfbaa.fnSplitJoin
open Go.ChangeShapes Go.WideShapes Go.ChangeAt Go.RowKit Plain
open Go.ChangeMaps (open_string shut_string)

theorem below3 {w a b : World} (h : Below w.heap.size w a) (k : Below a.heap.size a b) : Below w.heap.size w b := h.trans (k.mono h.size)

theorem IsRow.code {w : World} {a : Option Addr} {len cap : Nat} {z : List Int} (h : IsRow .u8 w a len cap z) : CodeRow w a len w.heap.size := by
  rcases h with ⟨_, h, _, _⟩ | ⟨x, rfl, h1, h2, h3, h4, h5⟩
  · exact .inl h
  · by_cases h0 : len = 0
    · exact .inl h0
    · obtain ⟨b, o, sp⟩ := x
      have hc := h4 0 (by omega)
      have hsp : sp = none := by simpa [Addr.add] using World.cell?_spot hc
      subst hsp
      have hb : b < w.heap.size := by simpa [Addr.add] using World.block_lt_of_cell? w _ hc
      refine .inr ⟨b, o, rfl, hb, fun j hj => ?_⟩
      have := h4 j (by omega)
      have e : (⟨b, o, none⟩ : Addr).add j = ⟨b, o + j, none⟩ := by unfold Addr.add; split <;> simp_all
      rw [e, List.getD_eq_getElem?_getD, List.getElem?_eq_getElem (by omega)] at this
      have hw := h5 z[j] (List.getElem_mem _)
      have e1 : IntKind.u8.min = 0 := rfl
      have e2 : IntKind.u8.max = 255 := rfl
      simp [Lit.wf, e1, e2] at hw
      obtain ⟨n, hn⟩ := Int.eq_ofNat_of_zero_le hw.1
      exact ⟨n, by omega, by rw [this, ← hn]; rfl⟩
theorem big_any (a : Option Addr) (len cap : Nat) (w : World) : Calls Try.prog 8 #[.slice a len cap] w fun e w' => e = .returned (.bool (decide ((65536 : Int) < (len : Int)))) ∧ w = w' := by
  go_enter Try.func8, Try.ntmps8
  go_wp2
  go_ret
  exact ⟨rfl, rfl⟩

theorem less_impl (a b : ByteArray) (r : Bool) (h : Op.bytesLess a.toList b.toList = r) (w : World) : Calls Try.prog 15 #[.string a, .string b] w fun e w' => e = .returned (.bool r) ∧ w = w' := by
  cases r <;> (
    go_enter Try.func15, Try.ntmps15
    go_wp2
    go_ret
    exact ⟨rfl, rfl⟩)
theorem less_spec (a b : ByteArray) (r : Bool) (h : Op.bytesLess a.toList b.toList = r) (w : World) : Calls Try.prog 16 #[.string a, .string b] w fun e w' => e = .returned (.bool r) ∧ w = w' := by
  cases r <;> (
    go_enter Try.func16, Try.ntmps16
    go_wp2
    go_ret
    exact ⟨rfl, rfl⟩)

/-- How a JoinStrings ends. -/
def JoinR (j : ByteArray) (ok : Bool) (w : World) (e : Ending) (w' : World) : Prop := e = .returned (.tuple #[.string j, .bool ok]) ∧ Below w.heap.size w w'
theorem join_both (v : Value) (ss : List ByteArray) (sep : ByteArray) (hs : sep.size ≤ 10) (hn : ss.length ≤ 1048576) (ht : total ss ≤ 1048576) :
    ∃ (j : ByteArray) (ok : Bool), (∀ w, StrRow w v ss → Calls Try.prog 12 #[v, .string sep] w (JoinR j ok w)) ∧ (∀ w, StrRow w v ss → Calls Try.prog 13 #[v, .string sep] w (JoinR j ok w)) := by
  by_cases h1 : sep.size = 1
  · have hp : 0 < sep.size := by omega
    by_cases hok : JoinOk ss sep sep[0]
    · refine ⟨joinT ss sep, true, fun w hv => (implJoin_any v ss sep w hv hp h1 hn ht).mono ?_, fun w hv => (specJoin_any v ss sep w hv hp h1 hn ht).mono ?_⟩ <;>
      · rintro e w' (⟨_, h, hb⟩ | ⟨h, _⟩)
        · exact ⟨h, hb⟩
        · exact absurd hok h
    · refine ⟨ByteArray.empty, false, fun w hv => (implJoin_any v ss sep w hv hp h1 hn ht).mono ?_, fun w hv => (specJoin_any v ss sep w hv hp h1 hn ht).mono ?_⟩ <;>
      · rintro e w' (⟨h, _⟩ | ⟨_, h, hb⟩)
        · exact absurd h hok
        · exact ⟨h, hb⟩
  · exact ⟨ByteArray.empty, false, fun w hv => implJoin_sep v ss sep w hv hn h1, fun w hv => specJoin_sep v ss sep w hv (by unfold maxLen; omega) h1⟩

/-- How SplitString ends. -/
def SplitR (ps : List (List UInt8)) (ok : Bool) (w : World) (e : Ending) (w' : World) : Prop :=
  ∃ g cap, e = .returned (.tuple #[.slice (some ⟨g, 0, none⟩) ps.length cap, .bool ok]) ∧ StrRow w' (.slice (some ⟨g, 0, none⟩) ps.length cap) (ps.map ba) ∧ Below w.heap.size w w'
theorem row_of {w : World} {base g cap : Nat} {ps : List (List UInt8)} (h : OwnsStrs w base (.slice (some ⟨g, 0, none⟩) ps.length cap) ps) : StrRow w (.slice (some ⟨g, 0, none⟩) ps.length cap) (ps.map ba) := by
  unfold OwnsStrs at h
  have e : ps.map strv = (ps.map ba).map Value.string := by rw [List.map_map]; rfl
  rw [e] at h
  exact StrRow.of_own h
theorem split_any (s sep : ByteArray) (hs : s.size ≤ 10) (hp : sep.size ≤ 10) :
    ∃ (ps : List (List UInt8)) (ok : Bool), (∀ w, Calls Try.prog 10 #[.string s, .string sep] w (SplitR ps ok w)) ∧
      ((sep.size = 1 ∧ ok = true ∧ ∀ h : 0 < sep.size, ps = parts sep[0] s.data.toList) ∨ (sep.size ≠ 1 ∧ ok = false ∧ ps = [])) := by
  by_cases h1 : sep.size = 1
  · have h0 : 0 < sep.size := by omega
    refine ⟨parts sep[0] s.data.toList, true, fun w => (split_yes s sep (by omega) h0 h1 w).mono ?_, .inl ⟨h1, rfl, fun _ => rfl⟩⟩
    rintro e w' ⟨g, c, h, ho, hb⟩
    exact ⟨g, c, h, row_of ho, hb⟩
  · refine ⟨[], false, fun w => (split_sep s sep (by unfold maxLen; omega) (by omega) h1 w).mono ?_, .inr ⟨h1, rfl, rfl⟩⟩
    rintro e w' ⟨g, c, h, ho, hb⟩
    exact ⟨g, c, h, row_of (ps := []) ho, hb⟩


set_option maxRecDepth 100000 in
set_option maxHeartbeats 2000000 in
theorem core (a : Option Addr) (len cap : Nat) (w : World) (hl : len ≤ 65536) (hr : CodeRow w a len w.heap.size) :
    Calls Try.prog 3 #[.slice a len cap] w fun e w' => e = .returned (.bool true) ∧ Below w.heap.size w w' := by
  have HR := Lib.hid hr
  have hd : decide ((65536 : Int) < (len : Int)) = false := by simp; omega
  clear hr
  go_enter Try.func3, Try.ntmps3
  go_wp2_with fail
  refine (big_any _ _ _ _).mono ?_
  rintro e w' ⟨rfl, rfl⟩
  rw [hd]
  go_wp2_with fail
  refine (drawSplit_any _ _ _ _ hl HR.out).mono ?_
  rintro e w1 ⟨s, sep, hs, hp, rfl, hb1⟩
  have HB1 := Lib.hid hb1
  obtain ⟨ps, ok, hS, hO⟩ := split_any s sep hs hp
  have HO := Lib.hid hO
  clear hb1 hO
  go_wp2_with fail
  refine (hS _).mono ?_
  rintro e w2 ⟨g, c, rfl, hrow, hb2⟩
  have HW2 := Lib.hid hrow
  have HB2 := Lib.hid (below3 HB1.out hb2)
  clear hrow hb2 hS
  go_wp2_with fail
  refine (drawJoin_any _ _ _ _ hl (HR.out.later HB2.out)).mono ?_
  rintro e w3 ⟨v, ss, mk, rfl, hrow, hn, ht, hm, hb3⟩
  have HV3 := Lib.hid hrow
  have HW3 := Lib.hid (HW2.out.below hb3)
  have HB3 := Lib.hid (below3 HB2.out hb3)
  obtain ⟨j, fine, hJI, hJS⟩ := join_both v ss mk hm (by omega) (by omega)
  have HJS := Lib.hid hJS
  clear hrow hb3 hJS
  go_wp2_with fail
  refine (hJI _ HV3.out).mono ?_
  rintro e w4 ⟨rfl, hb4⟩
  have HV4 := Lib.hid (HV3.out.below hb4)
  have HW4 := Lib.hid (HW3.out.below hb4)
  have HB4 := Lib.hid (below3 HB3.out hb4)
  clear hb4 hJI
  go_wp2_with fail
  refine (HJS.out _ HV4.out).mono ?_
  rintro e w5 ⟨rfl, hb5⟩
  have HW5 := Lib.hid (HW4.out.below hb5)
  have HB5 := Lib.hid (below3 HB4.out hb5)
  clear hb5 HJS
  go_wp2_with fail
  refine (drawLess_any _ _ _ _ hl (HR.out.later HB5.out)).mono ?_
  rintro e w6 ⟨x, y, hx, hy, rfl, hb6⟩
  have HW6 := Lib.hid (HW5.out.below hb6)
  have HB6 := Lib.hid (below3 HB5.out hb6)
  clear hb6 HW2 HW3 HW4 HV3 HV4 HB1 HB2 HB3 HB4
  obtain ⟨r, hr1⟩ : ∃ r, Op.bytesLess x.toList y.toList = r := ⟨_, rfl⟩
  have hr2 : r = true → Op.bytesLess y.toList x.toList = false := fun h => less_anti _ _ (hr1.trans h)
  have HR1 := Lib.hid hr1
  have HR2 := Lib.hid hr2
  clear hr1 hr2
  cases r <;> cases fine
  · skip
    go_wp2_with fail
    refine (less_impl x y false HR1.out _).mono ?_
    rintro e w' ⟨rfl, rfl⟩
    go_wp2_with fail
    refine (less_spec x y false HR1.out _).mono ?_
    rintro e w' ⟨rfl, rfl⟩
    go_wp2_with fail
    refine (less_impl x y false HR1.out _).mono ?_
    rintro e w' ⟨rfl, rfl⟩
    rcases HO.out with ⟨h1, rfl, hps⟩ | ⟨h1, rfl, rfl⟩
    · skip
      have h0 : 0 < sep.size := by omega
      obtain ⟨hok, hj⟩ := join_parts s sep h0 h1 (by omega)
      rw [← hps h0] at hok hj
      have hsz := joinT_size (ps.map ba) sep h1 hok.1
      rw [hj] at hsz
      have HOK := Lib.hid hok
      have HJ := Lib.hid hj
      have H1 := Lib.hid h1
      have hq : ((sep.size : Int) == 1) = true := by rw [h1]; rfl
      have hq2 : ((sep.size : Int) != 1) = false := by rw [h1]; rfl
      clear hok hj h1 hps
      go_wp2_with fail
      refine (implJoin_any _ (ps.map ba) sep _ HW6.out h0 H1.out (by omega) (by omega)).mono ?_
      rintro e w7 (⟨_, rfl, hb7⟩ | ⟨hno, _⟩)
      · rw [HJ.out]
        have HB7 := Lib.hid (below3 HB6.out hb7)
        clear hb7
        go_wp2
        go_ret
        exact ⟨rfl, HB7.out⟩
      · exact absurd HOK.out hno
    · skip
      have hq : ((sep.size : Int) == 1) = false := by rw [beq_eq_false_iff_ne]; omega
      have hq2 : ((sep.size : Int) != 1) = true := by rw [bne_iff_ne]; omega
      clear h1
      go_wp2
      go_ret
      exact ⟨rfl, HB6.out⟩
  · skip
    go_wp2_with fail
    refine (less_impl x y false HR1.out _).mono ?_
    rintro e w' ⟨rfl, rfl⟩
    go_wp2_with fail
    refine (less_spec x y false HR1.out _).mono ?_
    rintro e w' ⟨rfl, rfl⟩
    go_wp2_with fail
    refine (less_impl x y false HR1.out _).mono ?_
    rintro e w' ⟨rfl, rfl⟩
    rcases HO.out with ⟨h1, rfl, hps⟩ | ⟨h1, rfl, rfl⟩
    · skip
      have h0 : 0 < sep.size := by omega
      obtain ⟨hok, hj⟩ := join_parts s sep h0 h1 (by omega)
      rw [← hps h0] at hok hj
      have hsz := joinT_size (ps.map ba) sep h1 hok.1
      rw [hj] at hsz
      have HOK := Lib.hid hok
      have HJ := Lib.hid hj
      have H1 := Lib.hid h1
      have hq : ((sep.size : Int) == 1) = true := by rw [h1]; rfl
      have hq2 : ((sep.size : Int) != 1) = false := by rw [h1]; rfl
      clear hok hj h1 hps
      go_wp2_with fail
      refine (implJoin_any _ (ps.map ba) sep _ HW6.out h0 H1.out (by omega) (by omega)).mono ?_
      rintro e w7 (⟨_, rfl, hb7⟩ | ⟨hno, _⟩)
      · rw [HJ.out]
        have HB7 := Lib.hid (below3 HB6.out hb7)
        clear hb7
        go_wp2
        go_ret
        exact ⟨rfl, HB7.out⟩
      · exact absurd HOK.out hno
    · skip
      have hq : ((sep.size : Int) == 1) = false := by rw [beq_eq_false_iff_ne]; omega
      have hq2 : ((sep.size : Int) != 1) = true := by rw [bne_iff_ne]; omega
      clear h1
      go_wp2
      go_ret
      exact ⟨rfl, HB6.out⟩
  · skip
    go_wp2_with fail
    refine (less_impl x y true HR1.out _).mono ?_
    rintro e w' ⟨rfl, rfl⟩
    go_wp2_with fail
    refine (less_spec x y true HR1.out _).mono ?_
    rintro e w' ⟨rfl, rfl⟩
    go_wp2_with fail
    refine (less_impl x y true HR1.out _).mono ?_
    rintro e w' ⟨rfl, rfl⟩
    go_wp2_with fail
    refine (less_impl y x false (HR2.out (by first | rfl | trivial)) _).mono ?_
    rintro e w' ⟨rfl, rfl⟩
    rcases HO.out with ⟨h1, rfl, hps⟩ | ⟨h1, rfl, rfl⟩
    · skip
      have h0 : 0 < sep.size := by omega
      obtain ⟨hok, hj⟩ := join_parts s sep h0 h1 (by omega)
      rw [← hps h0] at hok hj
      have hsz := joinT_size (ps.map ba) sep h1 hok.1
      rw [hj] at hsz
      have HOK := Lib.hid hok
      have HJ := Lib.hid hj
      have H1 := Lib.hid h1
      have hq : ((sep.size : Int) == 1) = true := by rw [h1]; rfl
      have hq2 : ((sep.size : Int) != 1) = false := by rw [h1]; rfl
      clear hok hj h1 hps
      go_wp2_with fail
      refine (implJoin_any _ (ps.map ba) sep _ HW6.out h0 H1.out (by omega) (by omega)).mono ?_
      rintro e w7 (⟨_, rfl, hb7⟩ | ⟨hno, _⟩)
      · rw [HJ.out]
        have HB7 := Lib.hid (below3 HB6.out hb7)
        clear hb7
        go_wp2
        go_ret
        exact ⟨rfl, HB7.out⟩
      · exact absurd HOK.out hno
    · skip
      have hq : ((sep.size : Int) == 1) = false := by rw [beq_eq_false_iff_ne]; omega
      have hq2 : ((sep.size : Int) != 1) = true := by rw [bne_iff_ne]; omega
      clear h1
      go_wp2
      go_ret
      exact ⟨rfl, HB6.out⟩
  · skip
    go_wp2_with fail
    refine (less_impl x y true HR1.out _).mono ?_
    rintro e w' ⟨rfl, rfl⟩
    go_wp2_with fail
    refine (less_spec x y true HR1.out _).mono ?_
    rintro e w' ⟨rfl, rfl⟩
    go_wp2_with fail
    refine (less_impl x y true HR1.out _).mono ?_
    rintro e w' ⟨rfl, rfl⟩
    go_wp2_with fail
    refine (less_impl y x false (HR2.out (by first | rfl | trivial)) _).mono ?_
    rintro e w' ⟨rfl, rfl⟩
    rcases HO.out with ⟨h1, rfl, hps⟩ | ⟨h1, rfl, rfl⟩
    · skip
      have h0 : 0 < sep.size := by omega
      obtain ⟨hok, hj⟩ := join_parts s sep h0 h1 (by omega)
      rw [← hps h0] at hok hj
      have hsz := joinT_size (ps.map ba) sep h1 hok.1
      rw [hj] at hsz
      have HOK := Lib.hid hok
      have HJ := Lib.hid hj
      have H1 := Lib.hid h1
      have hq : ((sep.size : Int) == 1) = true := by rw [h1]; rfl
      have hq2 : ((sep.size : Int) != 1) = false := by rw [h1]; rfl
      clear hok hj h1 hps
      go_wp2_with fail
      refine (implJoin_any _ (ps.map ba) sep _ HW6.out h0 H1.out (by omega) (by omega)).mono ?_
      rintro e w7 (⟨_, rfl, hb7⟩ | ⟨hno, _⟩)
      · rw [HJ.out]
        have HB7 := Lib.hid (below3 HB6.out hb7)
        clear hb7
        go_wp2
        go_ret
        exact ⟨rfl, HB7.out⟩
      · exact absurd HOK.out hno
    · skip
      have hq : ((sep.size : Int) == 1) = false := by rw [beq_eq_false_iff_ne]; omega
      have hq2 : ((sep.size : Int) != 1) = true := by rw [bne_iff_ne]; omega
      clear h1
      go_wp2
      go_ret
      exact ⟨rfl, HB6.out⟩

theorem walk (w : World) (_ : w.ShapedOpen Try.prog) (a0 : Option Addr) (len0 cap0 : Nat) (z0 : List Int) (w0 : IsRow .u8 w a0 len0 cap0 z0) :
    Calls Try.prog 3 #[.slice a0 len0 cap0] w fun e w' => e = .returned (.bool true) ∧ Below w.heap.size w w' := by
  by_cases hl : len0 ≤ 65536
  · exact core a0 len0 cap0 w hl (IsRow.code w0)
  · have hd : decide ((65536 : Int) < (len0 : Int)) = true := by simp; omega
    clear w0
    go_enter Try.func3, Try.ntmps3
    go_wp2_with fail
    refine (big_any _ _ _ _).mono ?_
    rintro e w' ⟨rfl, rfl⟩
    rw [hd]
    go_wp2
    go_ret
    exact ⟨rfl, Below.refl _ _⟩

theorem laidOut : laidOutB Try.prog = true := by kernel_rfl
noncomputable def laidWorld (os : Os) : World := World.holding Try.prog os ⟨#[], #[], []⟩
theorem laid_met (os : Os) : laidMet Try.prog Rows.fnSplitJoinRow.laid ((laidWorld os).forCall (fun _ _ => 0) ⟨#[], #[.slice none 0 0], []⟩).memory := laidMet_of_run' 8 (by kernel_rfl) (by kernel_rfl)
theorem reads (os : Os) {H : Type} (enc : TypeId × Value → H) : ∃ places, DataW.whole enc Try.prog ((laidWorld os).forCall (fun _ _ => 0) ⟨#[], #[.slice none 0 0], []⟩).memory Try.f3.params.toList Rows.fnSplitJoinSpec.vars false #[.slice none 0 0].toList 8 = some ([.nil], [], places) :=
  ⟨[], by kernel_rfl⟩
set_option linter.unusedVariables false in
set_option maxRecDepth 100000 in
theorem lifted (os : Os) (started : os.Started) (H : Type) (enc : TypeId × Value → H) (F : Stop.Interp) :
    ReturnsInHanded {} Try.checked os 3 .any ((OpenSpec.ofChange Rows.fnSplitJoinSpec).preRow enc Try.prog Try.f3 Rows.fnSplitJoinRow.domain false Rows.fnSplitJoinRow.laid) (((OpenSpec.ofChange Rows.fnSplitJoinSpec).at F).post enc Try.prog Try.f3 false true false false) := by
  obtain ⟨places, hx⟩ := reads os enc
  refine returnsInHanded_of_row (C := Try.checked) (s := (OpenSpec.ofChange Rows.fnSplitJoinSpec)) own started (by kernel_rfl) Try.func3
    (witness_row_at (enc := enc) (C := Try.checked) false (laidWorld os) #[.slice none 0 0] rfl (by kernel_rfl) (by kernel_rfl) (by kernel_rfl)
      (OpenSpec.preRow_of_cond 8 hx (by kernel_rfl) (fun k hk => by cases hk) (by kernel_rfl) (laid_met os))) ?_
  intro W base args ds gs before hval0 hW _ hcond hsz hL hsh _
  have hval : ∀ (j : Nat) t v, Try.f3.params[j]? = some t → args[j]? = some v → Value.okWide Try.prog W .any base t v := hval0
  have hW' := hW
  obtain ⟨p, q, hA0, hV, rfl, hfz, hnd⟩ := hW
  have hA : DataW.TrodAll enc Try.prog W 0 (fun _ => true) true Try.f3.params.toList args.toList ds p := hA0
  rw [Try.params3] at hA hval
  obtain ⟨v0, vs0, d0, ds0, p0, q0, hargs, rfl, rfl, h0, r0⟩ := trodAll_cons hA
  obtain ⟨rfl, rfl, rfl⟩ := trodAll_nil r0
  obtain rfl : args = #[v0] := by cases args; simp_all
  obtain ⟨rfl, rfl⟩ := trodVars_none hV
  obtain ⟨a0, len0, cap0, rfl⟩ := okWide_slice Try.underlying22 (hval 0 22 v0 rfl rfl)
  have k0 := h0
  have lt0 : ∀ x ∈ p0, x.block < W.heap.size := by obtain ⟨m, hm⟩ := k0; exact DataW.trod_lt m _ _ _ hm
  obtain ⟨z0, w0⟩ : ∃ zs, IsRow .u8 W a0 len0 cap0 zs := by
    obtain ⟨fuel, hf⟩ := h0
    rcases open_ints Try.underlying22 Try.underlying5 (by kernel_rfl) hf with ⟨hcs, _⟩ | ⟨x, l, c, zs, hcs, _, hl, hm, hz, _, hcell, hwz⟩
    · simp [Value.cells] at hcs; obtain ⟨rfl, rfl, rfl⟩ := hcs; exact ⟨[], .inl ⟨rfl, rfl, rfl, rfl⟩⟩
    · simp [Value.cells] at hcs; obtain ⟨rfl, rfl, rfl⟩ := hcs; exact ⟨zs, .inr ⟨_, rfl, hl, hm, by simpa using hz, hcell, hwz⟩⟩
  clear hA0 hval0
  have hwalk : Calls Try.prog 3 #[.slice a0 len0 cap0] W fun e w' => e = .returned (.bool true) ∧ Below W.heap.size W w' := walk W hsh a0 len0 cap0 z0 w0
  refine hwalk.mono fun e W' ⟨he, bel⟩ => ?_
  subst he
  exact ⟨_, rfl, _, _, _, [], _, [], hW', trodAll_mk1 (shut_bool Try.underlying4 _), (trodAll_cons_mk (Below.trod laidOut (by kernel_rfl) (of_decide_eq_true (by kernel_rfl)) k0 bel lt0) trodAll_mk0), rfl, bel.frame _, fun h => by cases h⟩
theorem proved : Rows.FnSplitJoinSaid :=
  OpenClaim.holds_of_cond 3 Try.f3 rfl rfl rfl rfl rfl rfl rfl ⟨rfl, rfl, rfl, rfl, rfl⟩ rfl rfl rfl rfl rfl (by kernel_rfl) Try.func3 (by kernel_rfl)
    (of_decide_eq_true (by kernel_rfl)) (by unfold Func.isWrapper; first | (rw [if_pos (by decide +kernel)]; kernel_rfl) | (rw [if_neg (by decide +kernel)]; exact ⟨rfl, rfl⟩))
    (fun os started H enc _ F => by rw [OpenClaim.pre_eq_preRow]; exact lifted os started H enc F)
#print axioms proved
end Go.Proofs.Ytdbkciffdfdfbaa.fnSplitJoin
