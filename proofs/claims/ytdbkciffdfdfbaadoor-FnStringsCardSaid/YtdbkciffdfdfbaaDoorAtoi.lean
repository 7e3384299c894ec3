/-
  The contract of impl.ParseInt: the number whose numeral the text is, and true; else 0 and false. Its premises: what the row lists of the library's variables, and that the text has at most 2^48 bytes.
-/
import Derived.Test.YtdbkciffdfdfbaaDoorFmt
import Derived.Test.YtdbkciffdfdfbaaDoorReadPlain
import Derived.Lib.SmallJoins
namespace Go.Proofs.YtdbkciffdfdfbaaDoor
open Go.RowKit Plain Go.Lib

/-- How a read ends: with the number, or with none. -/
def ReadYes (v : Int) (w : World) (e : Ending) (w' : World) : Prop := e = .returned (.tuple #[.int .i64 v, .bool true]) ∧ Below w.heap.size w w'
def ReadNo (w : World) (e : Ending) (w' : World) : Prop := e = .returned (.tuple #[.int .i64 0, .bool false]) ∧ Below w.heap.size w w'

theorem atoi_ok (s : ByteArray) (v : Int) (w : World) (hs : s.size ≤ 281474976710656) (h : Lib.atoiAll s.data.toList = .ok v) :
    Calls Tryd.prog 28 #[.string s] w fun e w' => e = .returned (.tuple #[.int .i64 v, .nilIface]) ∧ Below w.heap.size w w' :=
  (Tryd.strconv_Atoi_ok s (by omega) v h w).mono fun e w' ⟨he, hw⟩ => ⟨he, by
    rcases hw with rfl | ⟨t, rfl⟩
    · exact Below.refl _ _
    · exact Go.Joins.below_bytesWorld _ _ _ _ (Nat.le_refl _)⟩
theorem atoi_fail (s : ByteArray) (w : World) (hs : s.size ≤ 281474976710656) (hE : ErrVars w) (h : ∀ v, Lib.atoiAll s.data.toList ≠ .ok v) :
    Calls Tryd.prog 28 #[.string s] w fun e w' => ∃ (n : Int) (N : Nat), e = .returned (.tuple #[.int .i64 n, .iface 65 (.pointer (some ⟨N, 0, none⟩))]) ∧ Below w.heap.size w w' := by
  obtain ⟨⟨p, hp⟩, ⟨q, hq⟩⟩ := hE
  cases hx : Lib.atoiAll s.data.toList with
  | ok v => exact absurd hx (h v)
  | range => exact (Any.strconv_Atoi_range_var Tryd.laysC172 s hs hx _ _ w hq).mono fun e w' ⟨N, he, _, _, hb⟩ => ⟨_, N, he, hb⟩
  | _ => exact (Any.strconv_Atoi_syntax_var Tryd.laysC172 s hs hx _ _ w hp).mono fun e w' ⟨N, he, _, _, hb⟩ => ⟨_, N, he, hb⟩

theorem implParse_yes (s : ByteArray) (v : Int) (w : World) (hs : s.size ≤ 281474976710656) (ht : Lib.TabIs Tryd.prog w "internal/strconv.uint64pow10" .u64 Lib.pow10Tab)
    (h0 : -999999 ≤ v) (h1 : v ≤ 999999) (hv : num v = s) :
    Calls Tryd.prog 13 #[.string s] w (ReadYes v w) := by
  have ha : Lib.atoiAll s.data.toList = .ok v := by rw [← (num_list v s).1 hv]; exact atoi_num v h0 h1
  have HA := Lib.hid ha
  have HT := Lib.hid ht
  have HS := Lib.hid hs
  subst hv
  clear ha ht hs
  go_enter Tryd.func13, Tryd.ntmps13
  go_wp2_with fail
  refine (atoi_ok _ v _ HS.out HA.out).mono ?_
  rintro e w1 ⟨rfl, hb1⟩
  have HB1 := Lib.hid hb1
  clear hb1
  go_wp2_with fail
  refine (implFmt_yes v _ h0 h1 (tab_below HT.out HB1.out)).mono ?_
  rintro e w2 ⟨rfl, hb2⟩
  have HB2 := Lib.hid hb2
  clear hb2
  go_wp2_with fail
  go_ret2
  exact ⟨rfl, HB1.out.trans (HB2.out.mono HB1.out.size)⟩

theorem implParse_no (s : ByteArray) (w : World) (hs : s.size ≤ 281474976710656) (ht : Lib.TabIs Tryd.prog w "internal/strconv.uint64pow10" .u64 Lib.pow10Tab) (hE : ErrVars w)
    (hn : noNum s) :
    Calls Tryd.prog 13 #[.string s] w (ReadNo w) := by
  have HT := Lib.hid ht
  have HS := Lib.hid hs
  have HE := Lib.hid hE
  have HN := Lib.hid hn
  clear ht hs hE hn
  by_cases hx : ∃ v, Lib.atoiAll s.data.toList = .ok v
  · obtain ⟨v, hv⟩ := hx
    have HA := Lib.hid hv
    clear hv
    by_cases hb : -999999 ≤ v ∧ v ≤ 999999
    · obtain ⟨h0, h1⟩ := hb
      have hne : ((num v).toList == s.toList) = false := toList_ne (HN.out v h0 h1)
      go_enter Tryd.func13, Tryd.ntmps13
      go_wp2_with fail
      refine (atoi_ok _ v _ HS.out HA.out).mono ?_
      rintro e w1 ⟨rfl, hb1⟩
      have HB1 := Lib.hid hb1
      clear hb1
      go_wp2_with fail
      refine (implFmt_yes v _ h0 h1 (tab_below HT.out HB1.out)).mono ?_
      rintro e w2 ⟨rfl, hb2⟩
      have HB2 := Lib.hid hb2
      clear hb2
      go_wp2_with fail
      go_ret2
      exact ⟨rfl, HB1.out.trans (HB2.out.mono HB1.out.size)⟩
    · have HO : Hid (v < -999999 ∨ 999999 < v) := by show _ ∨ _; omega
      clear hb
      go_enter Tryd.func13, Tryd.ntmps13
      go_wp2_with fail
      refine (atoi_ok _ v _ HS.out HA.out).mono ?_
      rintro e w1 ⟨rfl, hb1⟩
      have HB1 := Lib.hid hb1
      clear hb1
      go_wp2_with fail
      refine (implFmt_no v _ HO.out).mono ?_
      rintro e w2 ⟨rfl, hb2⟩
      have HB2 := Lib.hid hb2
      clear hb2
      go_wp2_with fail
      go_ret2
      exact ⟨rfl, HB1.out.trans (HB2.out.mono HB1.out.size)⟩
  · have HX : Hid (∀ v, Lib.atoiAll s.data.toList ≠ .ok v) := fun v hv => hx ⟨v, hv⟩
    clear hx
    go_enter Tryd.func13, Tryd.ntmps13
    go_wp2_with fail
    refine (atoi_fail s _ HS.out HE.out HX.out).mono ?_
    rintro e w1 ⟨n, N, rfl, hb1⟩
    have HB1 := Lib.hid hb1
    clear hb1
    go_wp2_with fail
    go_ret2
    exact ⟨rfl, HB1.out⟩
end Go.Proofs.YtdbkciffdfdfbaaDoor
