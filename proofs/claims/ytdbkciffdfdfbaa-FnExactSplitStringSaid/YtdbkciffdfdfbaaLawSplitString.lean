/-
  Proved: for every text and every separator, the law FnExactSplitString returns true, and the caller's memory reads as it did. No condition.
-/
import Derived.Test.YtdbkciffdfdfbaaMarks
import Derived.Test.YtdbkciffdfdfbaaSplitImpl
import Derived.Test.YtdbkciffdfdfbaaStrs
namespace Go.Proofs.Ytdbkciffdfdfbaa.fnExactSplitString
open Go.ChangeShapes Go.WideShapes Go.ChangeAt Go.RowKit Plain
open Go.ChangeMaps (open_string shut_string)

/-- How a SplitString ends. -/
def SplitPost (ps : List (List UInt8)) (ok : Bool) (w : World) (e : Ending) (w' : World) : Prop :=
  ∃ g cap, e = .returned (.tuple #[.slice (some ⟨g, 0, none⟩) ps.length cap, .bool ok]) ∧ OwnsStrs w' w.heap.size (.slice (some ⟨g, 0, none⟩) ps.length cap) ps ∧ Below w.heap.size w w'

def strsOf (ps : List (List UInt8)) : List ByteArray := ps.map fun l => ⟨l.toArray⟩
theorem strsOf_len (ps : List (List UInt8)) : (strsOf ps).length = ps.length := by simp [strsOf]
theorem strsOf_map (ps : List (List UInt8)) : ps.map strv = (strsOf ps).map Value.string := by rw [strsOf, List.map_map]; rfl
theorem row_of {w : World} {base g cap : Nat} {ps : List (List UInt8)} (h : OwnsStrs w base (.slice (some ⟨g, 0, none⟩) ps.length cap) ps) : StrRow w (.slice (some ⟨g, 0, none⟩) ps.length cap) (strsOf ps) := by
  unfold OwnsStrs at h
  rw [strsOf_map] at h
  exact StrRow.of_own h

theorem held_any (a : Option Addr) (c n : Nat) (w : World) (h : StrRow w (.slice a n c) (marks n)) (hn : n ≤ 1048577) :
    Calls Try.prog 20 #[.slice a n c, .int .i64 1] w fun e w' => e = .returned (.int .i64 (1 + n : Nat)) ∧ Below w.heap.size w w' := by
  by_cases h0 : 0 < n
  · exact held_row _ n w h hn h0
  · obtain rfl : n = 0 := by omega
    clear h
    go_enter Try.func20, Try.ntmps20
    go_wp2
    go_loop [1, 5] (fun q i => i = .int .i64 0 ∧ q = .int .i64 1) (fun _ i => 1 - (intOf i).toNat)
    case atStart => exact ⟨rfl, rfl⟩
    case round =>
      obtain ⟨rfl, rfl⟩ := hrel
      go_wp2
      go_ret
      exact ⟨rfl, Below.refl _ _⟩

theorem spec_yes (s sep : ByteArray) (hs : s.size ≤ 4000) (hp : 0 < sep.size) (H1 : Hid (sep.size = 1)) (w : World) : Calls Try.prog 17 #[.string s, .string sep] w (SplitPost (parts sep[0] s.data.toList) true w) := by
  have hq : ((sep.size : Int) == 1) = true := by rw [H1.out]; rfl
  have hq2 : ((sep.size : Int) != 1) = false := by rw [H1.out]; rfl
  have hk1 : (0 : Int) < (sep.size : Int) := by omega
  go_enter Try.func17, Try.ntmps17
  go_wp2_with fail
  refine (l1Split_any s sep[0] _ _ (by omega) rfl).mono ?_
  rintro e w1 ⟨g, cap, rfl, ho, hb⟩
  have HO := Lib.hid ho
  have HB := Lib.hid hb
  clear ho hb
  go_wp2
  go_ret2
  exact ⟨g, cap, rfl, HO.out, HB.out⟩
theorem spec_sep (s sep : ByteArray) (_hm : sep.size ≤ maxLen) (h : sep.size ≠ 1) (w : World) : Calls Try.prog 17 #[.string s, .string sep] w (SplitPost [] false w) := by
  unfold maxLen at _hm
  have hq : ((sep.size : Int) == 1) = false := by rw [beq_eq_false_iff_ne]; omega
  have hq2 : ((sep.size : Int) != 1) = true := by rw [bne_iff_ne]; omega
  clear h
  go_enter Try.func17, Try.ntmps17
  go_wp2
  go_ret2
  exact ⟨_, _, rfl, none_new w, (Below.refl _ _).alloc (Nat.le_refl _) _⟩
theorem spec_big (s sep : ByteArray) (_hm : s.size ≤ maxLen) (hs : 4000 < s.size) (H1 : Hid (sep.size = 1)) (w : World) : Calls Try.prog 17 #[.string s, .string sep] w (SplitPost [] false w) := by
  unfold maxLen at _hm
  have hq : ((sep.size : Int) == 1) = true := by rw [H1.out]; rfl
  have hq2 : ((sep.size : Int) != 1) = false := by rw [H1.out]; rfl
  go_enter Try.func17, Try.ntmps17
  go_wp2
  go_ret2
  exact ⟨_, _, rfl, none_new w, (Below.refl _ _).alloc (Nat.le_refl _) _⟩

theorem below3 {w a b : World} (h : Below w.heap.size w a) (k : Below a.heap.size a b) : Below w.heap.size w b := h.trans (k.mono h.size)

set_option maxHeartbeats 1000000 in
theorem core (s sep : ByteArray) (h1 : s.size ≤ 1048576) (h2 : sep.size ≤ 1048576) (ps : List (List UInt8)) (ok : Bool) (hn : ps.length ≤ 4001)
    (hS : ∀ w, Calls Try.prog 17 #[.string s, .string sep] w (SplitPost ps ok w)) (hI : ∀ w, Calls Try.prog 10 #[.string s, .string sep] w (SplitPost ps ok w)) (w : World) :
    Calls Try.prog 4 #[.string s, .string sep] w fun e w' => e = .returned (.bool true) ∧ Below w.heap.size w w' := by
  have HS := Lib.hid hS
  have HI := Lib.hid hI
  clear hS hI
  have hl := strsOf_len ps
  have HL := Lib.hid hl
  clear hl
  go_enter Try.func4, Try.ntmps4
  go_wp2_with fail
  refine (HS.out _).mono ?_
  rintro e w1 ⟨g1, c1, rfl, ho1, hb1⟩
  have HR1 := Lib.hid (row_of ho1)
  have HB1 := Lib.hid hb1
  clear ho1 hb1
  go_wp2_with fail
  refine (HI.out _).mono ?_
  rintro e w2 ⟨g2, c2, rfl, ho2, hb2⟩
  have HO2 := Lib.hid ho2
  have HB2 := Lib.hid hb2
  clear ho2 hb2
  go_wp2_with fail
  refine (eqS_yes _ _ (strsOf ps) _ (row_of HO2.out) (HR1.out.below HB2.out) (by rw [HL.out]; omega)).mono ?_
  rintro e w3 ⟨rfl, k3, rfl⟩
  have HO3 : Hid ((w2.drewN k3).ownsRow w1.heap.size 9 1 (.slice (some ⟨g2, 0, none⟩) ps.length c2) ps.length (ps.map strv)) := row_below HO2.out (drewN_below _ _)
  have HB3 : Hid (Below w1.heap.size w1 (w2.drewN k3)) := below3 HB2.out (drewN_below _ _)
  obtain ⟨w3, hw3⟩ : ∃ w3, w2.drewN k3 = w3 := ⟨_, rfl⟩
  rw [hw3] at HO3 HB3 ⊢
  clear hw3 HO2 HB2
  cases ok <;> (
    go_wp2_with fail
    refine (mark_row g2 c2 ps.length w1.heap.size _ _ HO3.out (by omega)).mono ?_
    rintro e w4 ⟨rfl, ho4, hb4⟩
    have HR4 : Hid (StrRow w4 (.slice (some ⟨g2, 0, none⟩) ps.length c2) (marks ps.length)) := StrRow.of_own ho4
    have HB4 : Hid (Below w1.heap.size w1 w4) := HB3.out.trans hb4
    clear ho4 hb4
    go_wp2_with fail
    refine (held_any _ c2 ps.length _ HR4.out (by omega)).mono ?_
    rintro e w5 ⟨rfl, hb5⟩
    have HB5 := Lib.hid hb5
    have HC5 : Hid (Below w1.heap.size w1 w5) := below3 HB4.out hb5
    clear hb5
    go_wp2_with fail
    refine (HI.out _).mono ?_
    rintro e w6 ⟨g6, c6, rfl, ho6, hb6⟩
    have HR6 := Lib.hid (row_of ho6)
    have HB6 : Hid (Below w4.heap.size w4 w6) := below3 HB5.out hb6
    have HC6 : Hid (Below w1.heap.size w1 w6) := below3 HC5.out hb6
    clear ho6 hb6
    go_wp2_with fail
    refine (eqS_yes _ _ (strsOf ps) _ HR6.out (HR1.out.below HC6.out) (by rw [HL.out]; omega)).mono ?_
    rintro e w7 ⟨rfl, k7, rfl⟩
    go_wp2_with fail
    refine (held_any _ c2 ps.length _ (HR4.out.below (below3 HB6.out (drewN_below _ _))) (by omega)).mono ?_
    rintro e w8 ⟨rfl, hb8⟩
    have HB8 : Hid (Below w.heap.size w w8) := below3 (below3 HB1.out (below3 HC6.out (drewN_below _ _))) hb8
    clear hb8
    go_wp2
    go_ret
    exact ⟨rfl, HB8.out⟩)

theorem walk (a0 : ByteArray) (w0 : a0.size ≤ maxLen) (a1 : ByteArray) (w1 : a1.size ≤ maxLen) (w : World) (_ : w.ShapedOpen Try.prog) :
    Calls Try.prog 4 #[.string a0, .string a1] w fun e w' => e = .returned (.bool true) ∧ Below w.heap.size w w' := by
  by_cases h0 : a0.size ≤ 1048576
  · by_cases h1 : a1.size ≤ 1048576
    · by_cases hsep : a1.size = 1
      · by_cases hs : a0.size ≤ 4000
        · have hp : 0 < a1.size := by omega
          have := parts_len a1[0] a0.data.toList
          have e : a0.data.toList.length = a0.size := by simp
          exact core a0 a1 h0 h1 (parts a1[0] a0.data.toList) true (by omega) (fun w => spec_yes a0 a1 hs hp hsep w) (fun w => split_yes a0 a1 hs hp hsep w) w
        · exact core a0 a1 h0 h1 [] false (by simp) (fun w => spec_big a0 a1 w0 (by omega) hsep w) (fun w => split_big a0 a1 w0 (by omega) w) w
      · by_cases hs : a0.size ≤ 4000
        · exact core a0 a1 h0 h1 [] false (by simp) (fun w => spec_sep a0 a1 w1 hsep w) (fun w => split_sep a0 a1 w1 hs hsep w) w
        · exact core a0 a1 h0 h1 [] false (by simp) (fun w => spec_sep a0 a1 w1 hsep w) (fun w => split_big a0 a1 w0 (by omega) w) w
    · have h3 : 1048576 < a1.size := by omega
      unfold maxLen at w0 w1
      go_enter Try.func4, Try.ntmps4
      go_wp2
      go_ret
      exact ⟨rfl, Below.refl _ _⟩
  · have h3 : 1048576 < a0.size := by omega
    unfold maxLen at w0
    clear w1
    go_enter Try.func4, Try.ntmps4
    go_wp2
    go_ret
    exact ⟨rfl, Below.refl _ _⟩

theorem laidOut : laidOutB Try.prog = true := by kernel_rfl
noncomputable def laidWorld (os : Os) : World := World.holding Try.prog os ⟨#[], #[], []⟩
theorem laid_met (os : Os) : laidMet Try.prog Rows.fnExactSplitStringRow.laid ((laidWorld os).forCall (fun _ _ => 0) ⟨#[], #[.string ByteArray.empty, .string ByteArray.empty], []⟩).memory := laidMet_of_run' 8 (by kernel_rfl) (by kernel_rfl)
theorem reads (os : Os) {H : Type} (enc : TypeId × Value → H) : ∃ places, DataW.whole enc Try.prog ((laidWorld os).forCall (fun _ _ => 0) ⟨#[], #[.string ByteArray.empty, .string ByteArray.empty], []⟩).memory Try.f4.params.toList Rows.fnExactSplitStringSpec.vars false #[.string ByteArray.empty, .string ByteArray.empty].toList 8 = some ([.lit (.string []), .lit (.string [])], [], places) :=
  ⟨[], by kernel_rfl⟩
set_option linter.unusedVariables false in
set_option maxRecDepth 100000 in
theorem lifted (os : Os) (started : os.Started) (H : Type) (enc : TypeId × Value → H) (F : Stop.Interp) :
    ReturnsInHanded {} Try.checked os 4 .any ((OpenSpec.ofChange Rows.fnExactSplitStringSpec).preRow enc Try.prog Try.f4 Rows.fnExactSplitStringRow.domain false Rows.fnExactSplitStringRow.laid) (((OpenSpec.ofChange Rows.fnExactSplitStringSpec).at F).post enc Try.prog Try.f4 false true false false) := by
  obtain ⟨places, hx⟩ := reads os enc
  refine returnsInHanded_of_row (C := Try.checked) (s := (OpenSpec.ofChange Rows.fnExactSplitStringSpec)) own started (by kernel_rfl) Try.func4
    (witness_row_at (enc := enc) (C := Try.checked) false (laidWorld os) #[.string ByteArray.empty, .string ByteArray.empty] rfl (by kernel_rfl) (by kernel_rfl) (by kernel_rfl)
      (OpenSpec.preRow_of_cond 8 hx (by kernel_rfl) (fun k hk => by cases hk) (by kernel_rfl) (laid_met os))) ?_
  intro W base args ds gs before hval0 hW _ hcond hsz hL hsh _
  have hval : ∀ (j : Nat) t v, Try.f4.params[j]? = some t → args[j]? = some v → Value.okWide Try.prog W .any base t v := hval0
  have hW' := hW
  obtain ⟨p, q, hA0, hV, rfl, hfz, hnd⟩ := hW
  have hA : DataW.TrodAll enc Try.prog W 0 (fun _ => true) true Try.f4.params.toList args.toList ds p := hA0
  rw [Try.params4] at hA hval
  obtain ⟨v0, vs0, d0, ds0, p0, q0, hargs, rfl, rfl, h0, r0⟩ := trodAll_cons hA
  obtain ⟨v1, vs1, d1, ds1, p1, q1, rfl, rfl, rfl, h1, r1⟩ := trodAll_cons r0
  obtain ⟨rfl, rfl, rfl⟩ := trodAll_nil r1
  obtain rfl : args = #[v0, v1] := by cases args; simp_all
  obtain ⟨rfl, rfl⟩ := trodVars_none hV
  obtain ⟨a0, rfl, rfl, rfl, w0⟩ := open_string Try.underlying9 (hval 0 9 v0 rfl rfl) h0
  obtain ⟨a1, rfl, rfl, rfl, w1⟩ := open_string Try.underlying9 (hval 1 9 v1 rfl rfl) h1
  clear hA0 hval0
  have hwalk : Calls Try.prog 4 #[.string a0, .string a1] W fun e w' => e = .returned (.bool true) ∧ Below W.heap.size W w' := walk a0 w0 a1 w1 W hsh
  refine hwalk.mono fun e W' ⟨he, bel⟩ => ?_
  subst he
  exact ⟨_, rfl, _, _, _, [], _, [], hW', trodAll_mk1 (shut_bool Try.underlying4 _), (trodAll_cons_mk (shut_string Try.underlying9 w0) (trodAll_cons_mk (shut_string Try.underlying9 w1) trodAll_mk0)), rfl, bel.frame _, fun h => by cases h⟩
theorem proved : Rows.FnExactSplitStringSaid :=
  OpenClaim.holds_of_cond 4 Try.f4 rfl rfl rfl rfl rfl rfl rfl ⟨rfl, rfl, rfl, rfl, rfl⟩ rfl rfl rfl rfl rfl (by kernel_rfl) Try.func4 (by kernel_rfl)
    (of_decide_eq_true (by kernel_rfl)) (by unfold Func.isWrapper; first | (rw [if_pos (by decide +kernel)]; kernel_rfl) | (rw [if_neg (by decide +kernel)]; exact ⟨rfl, rfl⟩))
    (fun os started H enc _ F => by rw [OpenClaim.pre_eq_preRow]; exact lifted os started H enc F)
#print axioms proved
end Go.Proofs.Ytdbkciffdfdfbaa.fnExactSplitString
