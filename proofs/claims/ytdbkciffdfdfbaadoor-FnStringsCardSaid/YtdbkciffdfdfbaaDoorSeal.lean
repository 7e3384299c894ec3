/-
  The contracts of AppendChecksum and VerifyChecksum, of the package and of the reference: a text of at most 4000 bytes without a mark is sealed where the result has at most 4000 bytes; a text is verified where it is what its own beginning is sealed to.
-/
import Derived.Test.YtdbkciffdfdfbaaDoorFmt
import Derived.Test.YtdbkciffdfdfbaaDoorSum
import Derived.Test.YtdbkciffdfdfbaaDoorSplit
import Derived.Test.YtdbkciffdfdfbaaDoorSealPlain
import Derived.Lib.Strings
namespace Go.Proofs.YtdbkciffdfdfbaaDoor
open Go.RowKit Plain Go.Lib

theorem ck_arg (t : ByteArray) : -1000000 ≤ ck t.data.toList ∧ ck t.data.toList ≤ 1000000 := by
  obtain ⟨h1, h2⟩ := ck_bd t.data.toList; omega

theorem seal_any (t : ByteArray) (w : World) (ht : t.size ≤ 4000) :
    Calls Tryd.prog 34 #[.string t] w fun e w' => e = .returned (.string (sealT t)) ∧ Below w.heap.size w w' := by
  have hn := num_ck_size t
  have HA := Lib.hid (ck_arg t)
  have HE : Hid (sealT t = t ++ ⟨#[35]⟩ ++ num (ck t.data.toList)) := rfl
  go_enter Tryd.func34, Tryd.ntmps34
  go_wp2_with fail
  refine (l1Sum_any t _ (by unfold maxLen; omega)).mono ?_
  rintro e w1 ⟨rfl, rfl⟩
  generalize ck t.data.toList = n at *
  go_wp2_with fail
  refine (l1Num_any _ _ HA.out.1 HA.out.2).mono ?_
  rintro e w1 ⟨rfl, k, rfl⟩
  go_wp2
  go_ret
  exact ⟨by rw [HE.out]; rfl, below_draws (Below.refl _ _) _⟩

/-- How AppendChecksum ends. -/
def AppPost (t : ByteArray) (w : World) (e : Ending) (w' : World) : Prop := e = .returned (.tuple #[.string (sealT t), .bool true]) ∧ Below w.heap.size w w'
def NoText (w : World) (e : Ending) (w' : World) : Prop := e = .returned (.tuple #[.string ByteArray.empty, .bool false]) ∧ Below w.heap.size w w'

theorem specApp_yes (t : ByteArray) (w : World) (h : AppOk t) : Calls Tryd.prog 17 #[.string t] w (AppPost t w) := by
  obtain ⟨h1, h2, h3⟩ := h
  have HM := Lib.hid h2
  clear h2
  go_enter Tryd.func17, Tryd.ntmps17
  go_wp2_with fail
  refine (stands_no t 35 _ _ (by unfold maxLen; omega) rfl HM.out).mono ?_
  rintro e w1 ⟨rfl, rfl⟩
  go_wp2_with fail
  refine (seal_any t _ h1).mono ?_
  rintro e w1 ⟨rfl, hb1⟩
  have HB1 := Lib.hid hb1
  clear hb1
  go_wp2_with fail
  refine (seal_any t _ h1).mono ?_
  rintro e w2 ⟨rfl, hb2⟩
  have HB2 := Lib.hid hb2
  clear hb2
  go_wp2
  go_ret2
  exact ⟨rfl, HB1.out.trans (HB2.out.mono HB1.out.size)⟩
theorem specApp_no (t : ByteArray) (w : World) (hm : t.size ≤ maxLen) (h : ¬ AppOk t) : Calls Tryd.prog 17 #[.string t] w (NoText w) := by
  by_cases h1 : t.size ≤ 4000
  · by_cases h2 : (35 : UInt8) ∈ t.data.toList
    · have HM := Lib.hid h2
      clear h2 h hm
      go_enter Tryd.func17, Tryd.ntmps17
      go_wp2_with fail
      refine (stands_yes t 35 _ _ (by unfold maxLen; omega) rfl HM.out).mono ?_
      rintro e w1 ⟨rfl, rfl⟩
      go_wp2
      go_ret2
      exact ⟨rfl, Below.refl _ _⟩
    · have h3 : 4000 < (sealT t).size := by
        by_cases h3 : (sealT t).size ≤ 4000
        · exact absurd ⟨h1, h2, h3⟩ h
        · omega
      have HM := Lib.hid h2
      clear h2 h hm
      go_enter Tryd.func17, Tryd.ntmps17
      go_wp2_with fail
      refine (stands_no t 35 _ _ (by unfold maxLen; omega) rfl HM.out).mono ?_
      rintro e w1 ⟨rfl, rfl⟩
      go_wp2_with fail
      refine (seal_any t _ h1).mono ?_
      rintro e w1 ⟨rfl, hb1⟩
      have HB1 := Lib.hid hb1
      clear hb1
      go_wp2
      go_ret2
      exact ⟨rfl, HB1.out⟩
  · have h2 : 4000 < t.size := by omega
    unfold maxLen at hm
    clear h h1
    go_enter Tryd.func17, Tryd.ntmps17
    go_wp2
    go_ret2
    exact ⟨rfl, Below.refl _ _⟩

theorem contains_yes (t : ByteArray) (w : World) (h : (35 : UInt8) ∈ t.data.toList) :
    Calls Tryd.prog 32 #[.string t, .string ⟨#[35]⟩] w fun e w' => e = .returned (.bool true) ∧ w = w' :=
  (Tryd.strings_Contains_one t 35 w).mono fun e w' ⟨he, hw⟩ => ⟨by rw [he, decide_eq_true ((index_mem _).2 h)], hw.symm⟩
theorem contains_no (t : ByteArray) (w : World) (h : (35 : UInt8) ∉ t.data.toList) :
    Calls Tryd.prog 32 #[.string t, .string ⟨#[35]⟩] w fun e w' => e = .returned (.bool false) ∧ w = w' :=
  (Tryd.strings_Contains_one t 35 w).mono fun e w' ⟨he, hw⟩ => ⟨by rw [he, decide_eq_false (fun hh => h ((index_mem _).1 hh))], hw.symm⟩

theorem implApp_yes (t : ByteArray) (w : World) (ht : Lib.TabIs Tryd.prog w "internal/strconv.uint64pow10" .u64 Lib.pow10Tab) (h : AppOk t) : Calls Tryd.prog 16 #[.string t] w (AppPost t w) := by
  obtain ⟨h1, h2, h3⟩ := h
  have HM := Lib.hid h2
  have HT := Lib.hid ht
  have hn := num_ck_size t
  have HA := Lib.hid (ck_arg t)
  have HE : Hid (sealT t = t ++ ⟨#[35]⟩ ++ num (ck t.data.toList)) := rfl
  have h3' : (t ++ ⟨#[35]⟩ ++ num (ck t.data.toList)).size ≤ 4000 := h3
  rw [ByteArray.size_append, ByteArray.size_append] at h3'
  have h4 : t.size + 1 + (num (ck t.data.toList)).size ≤ 4000 := h3'
  clear h2 ht h3 h3'
  go_enter Tryd.func16, Tryd.ntmps16
  go_wp2_with fail
  refine (implCk_yes t _ h1).mono ?_
  rintro e w1 ⟨rfl, rfl⟩
  go_wp2_with fail
  refine (contains_no t _ HM.out).mono ?_
  rintro e w1 ⟨rfl, rfl⟩
  generalize ck t.data.toList = n at *
  go_wp2_with fail
  refine (itoa_any _ _ HA.out.1 HA.out.2 HT.out).mono ?_
  rintro e w1 ⟨rfl, hb1⟩
  have HB1 := Lib.hid hb1
  clear hb1
  go_wp2
  go_ret2
  exact ⟨by rw [HE.out]; rfl, HB1.out⟩
theorem implApp_no (t : ByteArray) (w : World) (hm : t.size ≤ maxLen) (ht : Lib.TabIs Tryd.prog w "internal/strconv.uint64pow10" .u64 Lib.pow10Tab) (h : ¬ AppOk t) : Calls Tryd.prog 16 #[.string t] w (NoText w) := by
  have HT := Lib.hid ht
  clear ht
  by_cases h1 : t.size ≤ 4000
  · by_cases h2 : (35 : UInt8) ∈ t.data.toList
    · have HM := Lib.hid h2
      clear h2 h hm
      go_enter Tryd.func16, Tryd.ntmps16
      go_wp2_with fail
      refine (implCk_yes t _ h1).mono ?_
      rintro e w1 ⟨rfl, rfl⟩
      go_wp2_with fail
      refine (contains_yes t _ HM.out).mono ?_
      rintro e w1 ⟨rfl, rfl⟩
      go_wp2
      go_ret2
      exact ⟨rfl, Below.refl _ _⟩
    · have h3 : 4000 < (t ++ ⟨#[35]⟩ ++ num (ck t.data.toList)).size := by
        by_cases h3 : (sealT t).size ≤ 4000
        · exact absurd ⟨h1, h2, h3⟩ h
        · have : ¬ (t ++ ⟨#[35]⟩ ++ num (ck t.data.toList)).size ≤ 4000 := h3
          omega
      rw [ByteArray.size_append, ByteArray.size_append] at h3
      have h4 : 4000 < t.size + 1 + (num (ck t.data.toList)).size := h3
      have hn := num_ck_size t
      have HA := Lib.hid (ck_arg t)
      have HM := Lib.hid h2
      clear h2 h hm h3
      go_enter Tryd.func16, Tryd.ntmps16
      go_wp2_with fail
      refine (implCk_yes t _ h1).mono ?_
      rintro e w1 ⟨rfl, rfl⟩
      go_wp2_with fail
      refine (contains_no t _ HM.out).mono ?_
      rintro e w1 ⟨rfl, rfl⟩
      generalize ck t.data.toList = n at *
      go_wp2_with fail
      refine (itoa_any _ _ HA.out.1 HA.out.2 HT.out).mono ?_
      rintro e w1 ⟨rfl, hb1⟩
      have HB1 := Lib.hid hb1
      clear hb1
      go_wp2
      go_ret2
      exact ⟨rfl, HB1.out⟩
  · have h2 : 4000 < t.size := by omega
    clear h h1
    go_enter Tryd.func16, Tryd.ntmps16
    go_wp2_with fail
    refine (implCk_no t _ h2 hm).mono ?_
    rintro e w1 ⟨rfl, rfl⟩
    go_wp2
    go_ret2
    exact ⟨rfl, Below.refl _ _⟩
end Go.Proofs.YtdbkciffdfdfbaaDoor
