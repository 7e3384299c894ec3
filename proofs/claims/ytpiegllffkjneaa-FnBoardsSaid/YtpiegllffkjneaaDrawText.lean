/-
  The contracts of the reference's spoiling of a text and of its draw of a text: some text of a bounded size comes out, and nothing that lay there before turns.
-/
import Derived.Test.YtpiegllffkjneaaDrawPut
import Derived.Test.YtpiegllffkjneaaTextB
import Derived.Deep.QuietTactic
import Derived.BigQuiet
namespace Go.Proofs.Ytpiegllffkjneaa
open Go.RowKit Plain
attribute [local go_sem] store_new
set_option linter.unusedSimpArgs false
set_option linter.unusedVariables false

/-- Some text comes out. -/
def SpoiltPost (w : World) (B m : Nat) (e : Ending) (w' : World) : Prop := ∃ s : ByteArray, s.size ≤ 4096 ∧ e = .returned (.string s) ∧ Cur w' B m ∧ Turned B w w'
set_option maxHeartbeats 1000000 in
set_option maxRecDepth 20000 in
theorem spoilt_any (t v : ByteArray) (w : World) (B m : Nat) (hc : Cur w B m) (hm : m ≤ 999999900) (h1 : 1 ≤ t.size) (h2 : t.size ≤ 1000) (hv1 : 1 ≤ v.size) (hv2 : v.size ≤ 1000) :
    Calls Try.prog 128 #[.pointer (some ⟨B, 0, none⟩), .string t, .string v] w (SpoiltPost w B (m + 6)) := by
  have HC := Lib.hid hc
  have hlt := hc.lt
  have he : t.toList.isEmpty = false := by
    rw [ByteArray.toList_eq, List.isEmpty_eq_false_iff]; intro e
    have h5 : t.data.toList.length = 0 := by rw [e]; rfl
    rw [Array.length_toList] at h5
    have h6 : t.data.size = t.size := rfl
    omega
  clear hc
  go_enter Try.func128, Try.ntmps128
  go_wp2_with fail
  refine (pick_any _ B m (t.size : Int) HC.out (by omega) (by omega) (by omega)).mono ?_
  rintro e w1 ⟨i, hi, rfl, hc1, ht1⟩
  have HC := Lib.hid hc1
  have HT := Lib.hid ht1
  clear hc1 ht1 he
  go_wp2_with fail
  refine (pick_any _ B _ (v.size : Int) HC.out (by omega) (by omega) (by omega)).mono ?_
  rintro e w2 ⟨k, hk, rfl, hc1, ht1⟩
  have HC := Lib.hid hc1
  have HT := Lib.hid (HT.out.trans ht1)
  clear hc1 ht1
  have hi0 : (0 : Int) ≤ (i : Int) := by omega
  have hk0 : (0 : Int) ≤ (k : Int) := by omega
  have hi9 : (i : Int) ≤ (t.size : Int) := by omega
  have hk9 : (k : Int) ≤ (v.size : Int) := by omega
  have hxs : (v.extract k v.size).size = v.size - k := by simp
  go_wp2_with fail
  clear hxs
  have hws : ((v.extract k v.size).extract 0 1).size ≤ 1 := by simp; omega
  generalize (v.extract k v.size).extract 0 1 = c at *
  refine (pick_any _ B _ 3 HC.out (by omega) (by omega) (by omega)).mono ?_
  rintro e w3 ⟨q, hq, rfl, hc1, ht1⟩
  have HC := Lib.hid hc1
  have HT := Lib.hid (HT.out.trans ht1)
  clear hc1 ht1
  have hs1 : (t.extract 0 i).size = i := by simp; omega
  have hs2 : (t.extract i t.size).size = t.size - i := by simp
  have hi1 : IntKind.i64.wrap ((i : Int) + 1) = (i : Int) + 1 := IntWalk.i64_in _ (by omega)
  have hi2 : (i : Int) + 1 ≤ (t.size : Int) := by omega
  have hi3 : ((i : Int) + 1).toNat = i + 1 := by omega
  have hs3 : (t.extract (i + 1) t.size).size = t.size - (i + 1) := by simp
  rcases (by omega : q = 0 ∨ q = 1 ∨ q = 2) with rfl | rfl | rfl
  · go_wp2_with fail
    go_quiet (fail)
    all_goals
      go_wp2_with fail
      go_ret
      exact ⟨_, by (simp only [ByteArray.size_append, hs1, hs2, hs3]; omega), rfl, (HC.out.drewN _).more (by omega), HT.out.draws _⟩
  · go_wp2_with fail
    go_quiet (fail)
    all_goals
      go_wp2_with fail
      go_ret
      exact ⟨_, by (simp only [ByteArray.size_append, hs1, hs2, hs3]; omega), rfl, (HC.out.drewN _).more (by omega), HT.out.draws _⟩
  · go_wp2_with fail
    go_quiet (fail)
    all_goals
      go_wp2_with fail
      go_ret
      exact ⟨_, by (simp only [ByteArray.size_append, hs1, hs2, hs3]; omega), rfl, (HC.out.drewN _).more (by omega), HT.out.draws _⟩

set_option maxHeartbeats 1000000 in
theorem drawParseBoard_any (a : Option Addr) (len cap : Nat) (w : World) (hl : len ≤ 65536) (hr : CodeRow w a len w.heap.size) :
    Calls Try.prog 54 #[.slice a len cap] w fun e w' => ∃ s : ByteArray, s.size ≤ 4096 ∧ e = .returned (.string s) ∧ Below w.heap.size w w' := by
  have HC := Lib.hid (Cur.new w a len cap hl hr)
  have HB : Hid (Below w.heap.size w (w.alloc (.cells #[.slice a len cap, .int .i64 0, .int .u64 0] 97))) := (Below.refl _ w).alloc (Nat.le_refl _) _
  clear hr
  go_enter Try.func54, Try.ntmps54
  go_wp2_with fail
  refine (board_any _ w.heap.size 0 HC.out (by omega)).mono ?_
  rintro e w2 ⟨f, rfl, hc2, ht2⟩
  have HC := Lib.hid (hc2.alloc (.cells (mk 16 f) 27))
  have HB : Hid (Below w.heap.size w (w2.alloc (.cells (mk 16 f) 27))) := (HB.out.trans (ht2.below (by simp) (Nat.le_refl _))).alloc (HB.out.trans (ht2.below (by simp) (Nat.le_refl _))).size _
  have KA := Blk.new w2 16 f 27
  have z16 := zero16
  clear hc2 ht2
  go_wp2_with ((with_reducible show wpList _ _ _ (Oper.mk _ (Op.load 27 _) _ _ _ _ :: _) _ _); refine loadB (KA) rfl rfl rfl ?_)
  clear z16
  generalize w2.alloc (.cells (mk 16 f) 27) = W at *
  by_cases hV : Vd f
  · refine (l2Board_yes _ _ hV).mono ?_
    rintro e w3 ⟨rfl, hb⟩
    have KA := KA.below hb KA.lt
    have HC := Lib.hid (HC.out.kept hb)
    have HB : Hid (Below w.heap.size w w3) := HB.out.trans (hb.mono HB.out.size)
    have HV := Lib.hid hV
    clear hb hV
    go_wp2_with ((with_reducible show wpList _ _ _ (Oper.mk _ (Op.load 27 _) _ _ _ _ :: _) _ _); refine loadB (KA) rfl rfl rfl ?_)
    refine (l2Text_any f _ HV.out).mono ?_
    rintro e w4 ⟨rfl, hb⟩
    have HC := Lib.hid (HC.out.kept hb)
    have HB : Hid (Below w.heap.size w w4) := HB.out.trans (hb.mono HB.out.size)
    have hs9 : (tbs (textL f)).size = 19 := text_size f
    clear hb KA
    generalize tbs (textL f) = t at *
    go_wp2_with fail
    refine (one_any _ w.heap.size _ 3 HC.out (by omega) (by omega) (by omega)).mono ?_
    rintro e w5 ⟨b, rfl, hc2, ht2⟩
    have HC := Lib.hid hc2
    have HB : Hid (Below w.heap.size w w5) := HB.out.trans (ht2.below HB.out.size (Nat.le_refl _))
    clear hc2 ht2
    cases b with
    | true =>
      go_wp2_with fail
      refine (spoilt_any t _ _ w.heap.size _ HC.out (by omega) (by omega) (by omega) (by decide) (by decide)).mono ?_
      rintro e w6 ⟨s, hs, rfl, _, ht2⟩
      have HB : Hid (Below w.heap.size w w6) := HB.out.trans (ht2.below HB.out.size (Nat.le_refl _))
      clear ht2
      go_wp2_with fail
      go_ret
      exact ⟨s, hs, rfl, HB.out⟩
    | false =>
      go_wp2_with fail
      go_ret
      exact ⟨t, by omega, rfl, HB.out⟩
  · refine (l2Board_no _ _ hV).mono ?_
    rintro e w3 ⟨rfl, hb⟩
    have HC := Lib.hid (HC.out.kept hb)
    have HB : Hid (Below w.heap.size w w3) := HB.out.trans (hb.mono HB.out.size)
    clear hb hV KA
    obtain ⟨t, ht⟩ : ∃ t : ByteArray, t = ⟨#[46, 97, 98, 46, 47, 46, 46, 99, 46, 47, 97, 97, 98, 98, 47, 113, 46, 46, 46]⟩ := ⟨_, rfl⟩
    have hs9 : t.size = 19 := by rw [ht]; rfl
    rw [← ht]
    clear ht
    go_wp2_with fail
    refine (one_any _ w.heap.size _ 3 HC.out (by omega) (by omega) (by omega)).mono ?_
    rintro e w5 ⟨b, rfl, hc2, ht2⟩
    have HC := Lib.hid hc2
    have HB : Hid (Below w.heap.size w w5) := HB.out.trans (ht2.below HB.out.size (Nat.le_refl _))
    clear hc2 ht2
    cases b with
    | true =>
      go_wp2_with fail
      refine (spoilt_any t _ _ w.heap.size _ HC.out (by omega) (by omega) (by omega) (by decide) (by decide)).mono ?_
      rintro e w6 ⟨s, hs, rfl, _, ht2⟩
      have HB : Hid (Below w.heap.size w w6) := HB.out.trans (ht2.below HB.out.size (Nat.le_refl _))
      clear ht2
      go_wp2_with fail
      go_ret
      exact ⟨s, hs, rfl, HB.out⟩
    | false =>
      go_wp2_with fail
      go_ret
      exact ⟨t, by omega, rfl, HB.out⟩
end Go.Proofs.Ytpiegllffkjneaa
