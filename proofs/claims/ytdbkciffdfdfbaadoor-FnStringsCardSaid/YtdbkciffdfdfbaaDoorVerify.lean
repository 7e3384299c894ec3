/-
  The contracts of VerifyChecksum, of the package and of the reference.
-/
import Derived.Test.YtdbkciffdfdfbaaDoorSeal
namespace Go.Proofs.YtdbkciffdfdfbaaDoor
open Go.RowKit Plain Go.Lib

theorem clone_any (s : ByteArray) (w : World) (hs : s.size ≤ 281474976710656) :
    Calls Tryd.prog 36 #[.string s] w fun e w' => e = .returned (.string s) ∧ Below w.heap.size w w' := by
  go_enter Tryd.func36, Tryd.ntmps36
  go_wp2_with fail
  refine (Tryd.stringslite_Clone s _ hs).mono ?_
  rintro e w1 ⟨rfl, hb1⟩
  have HB1 := Lib.hid hb1
  clear hb1
  go_wp2
  go_ret
  exact ⟨rfl, HB1.out⟩

theorem aheadT_take (s : ByteArray) (i : Nat) (h : indexByte s.data.toList 35 = i) : s.extract 0 i = aheadT s := by
  obtain ⟨h1, _⟩ := ahead_index _ _ h
  apply ByteArray.ext
  apply Array.toList_inj.mp
  rw [Lib.extract_data]
  unfold aheadT
  simp [h1]
theorem aheadT_self (s : ByteArray) (h : indexByte s.data.toList 35 = -1) : aheadT s = s := by
  unfold aheadT; rw [(ahead_none _ h).1]

theorem slCut_any (s : ByteArray) (w : World) (hs : s.size ≤ 1048576) :
    Calls Tryd.prog 44 #[.string s, .string ⟨#[35]⟩] w fun e w' => (∃ (r : ByteArray) (b : Bool), e = .returned (.tuple #[.string (aheadT s), .string r, .bool b])) ∧ ∃ k, w' = w.drewN k := by
  by_cases hf : 0 ≤ indexByte s.data.toList 35
  · obtain ⟨i, hi⟩ := Int.eq_ofNat_of_zero_le hf
    have HX := Lib.hid (aheadT_take s i hi)
    have hlt : i < s.size := by have := (ahead_index _ _ hi).2; simpa using this
    have HI := Lib.hid hi
    clear hf hi
    go_enter Tryd.func44, Tryd.ntmps44
    go_wp2_with fail
    refine (Tryd.stringslite_Index_one s 35 _).mono ?_
    rintro e w1 ⟨rfl, rfl⟩
    rw [HI.out]
    go_wp2_with fail
    go_quiet (fail)
    go_wp2
    go_ret3
    exact ⟨⟨_, _, by rw [HX.out]; rfl⟩, _, rfl⟩
  · have hi : indexByte s.data.toList 35 = -1 := by have := indexByte_ge s.data.toList 35; omega
    have HX := Lib.hid (aheadT_self s hi)
    have HI := Lib.hid hi
    clear hf hi
    go_enter Tryd.func44, Tryd.ntmps44
    go_wp2_with fail
    refine (Tryd.stringslite_Index_one s 35 _).mono ?_
    rintro e w1 ⟨rfl, rfl⟩
    rw [HI.out]
    go_wp2
    go_ret3
    exact ⟨⟨_, _, by rw [HX.out]; rfl⟩, 0, rfl⟩
theorem cut_any (s : ByteArray) (w : World) (hs : s.size ≤ 1048576) :
    Calls Tryd.prog 35 #[.string s, .string ⟨#[35]⟩] w fun e w' => (∃ (r : ByteArray) (b : Bool), e = .returned (.tuple #[.string (aheadT s), .string r, .bool b])) ∧ ∃ k, w' = w.drewN k := by
  go_enter Tryd.func35, Tryd.ntmps35
  go_wp2_with fail
  refine (slCut_any s _ hs).mono ?_
  rintro e w1 ⟨⟨r, b, rfl⟩, k, rfl⟩
  go_wp2
  go_ret3
  exact ⟨⟨_, _, rfl⟩, _, rfl⟩

/-- How VerifyChecksum ends where it takes the text. -/
def VerPost (s : ByteArray) (w : World) (e : Ending) (w' : World) : Prop := e = .returned (.tuple #[.string (aheadT s), .bool true]) ∧ Below w.heap.size w w'

theorem implVer_yes (s : ByteArray) (w : World) (ht : Lib.TabIs Tryd.prog w "internal/strconv.uint64pow10" .u64 Lib.pow10Tab) (h : VerOk s) : Calls Tryd.prog 18 #[.string s] w (VerPost s w) := by
  have HT := Lib.hid ht
  have HO := Lib.hid h.app
  have hs : s.size ≤ 4000 := h.1
  have hq : ((sealT (aheadT s)).toList == s.toList) = true := by rw [h.2]; simp
  have hz := aheadT_size s
  clear ht h
  go_enter Tryd.func18, Tryd.ntmps18
  go_wp2_with fail
  refine (cut_any s _ (by omega)).mono ?_
  rintro e w1 ⟨⟨r, b, rfl⟩, hk⟩
  have HB1 : Hid (Below w.heap.size w w1) := by
    obtain ⟨k, rfl⟩ := hk
    exact below_draws (Below.refl _ _) _
  clear hk
  go_wp2_with fail
  refine (implApp_yes _ _ (tab_below HT.out HB1.out) HO.out).mono ?_
  rintro e w2 ⟨rfl, hb2⟩
  have HB2 := Lib.hid hb2
  clear hb2
  go_wp2_with fail
  refine (clone_any _ _ (by omega)).mono ?_
  rintro e w3 ⟨rfl, hb3⟩
  have HB3 := Lib.hid hb3
  clear hb3
  go_wp2
  go_ret2
  exact ⟨rfl, (HB1.out.trans (HB2.out.mono HB1.out.size)).trans (HB3.out.mono (Nat.le_trans HB1.out.size HB2.out.size))⟩

theorem implVer_no (s : ByteArray) (w : World) (hs : s.size ≤ 1048576) (ht : Lib.TabIs Tryd.prog w "internal/strconv.uint64pow10" .u64 Lib.pow10Tab) (h : ¬ VerOk s) : Calls Tryd.prog 18 #[.string s] w (NoText w) := by
  have HT := Lib.hid ht
  have hz := aheadT_size s
  clear ht
  by_cases ha : AppOk (aheadT s)
  · have hq : ((sealT (aheadT s)).toList == s.toList) = false := toList_ne (fun e => h (verOk_of ha e))
    have HO := Lib.hid ha
    clear ha h
    go_enter Tryd.func18, Tryd.ntmps18
    go_wp2_with fail
    refine (cut_any s _ (by omega)).mono ?_
    rintro e w1 ⟨⟨r, b, rfl⟩, hk⟩
    have HB1 : Hid (Below w.heap.size w w1) := by
      obtain ⟨k, rfl⟩ := hk
      exact below_draws (Below.refl _ _) _
    clear hk
    go_wp2_with fail
    refine (implApp_yes _ _ (tab_below HT.out HB1.out) HO.out).mono ?_
    rintro e w2 ⟨rfl, hb2⟩
    have HB2 := Lib.hid hb2
    clear hb2
    go_wp2_with fail
    go_ret2
    exact ⟨rfl, HB1.out.trans (HB2.out.mono HB1.out.size)⟩
  · have HO := Lib.hid ha
    clear ha h
    go_enter Tryd.func18, Tryd.ntmps18
    go_wp2_with fail
    refine (cut_any s _ (by omega)).mono ?_
    rintro e w1 ⟨⟨r, b, rfl⟩, hk⟩
    have HB1 : Hid (Below w.heap.size w w1) := by
      obtain ⟨k, rfl⟩ := hk
      exact below_draws (Below.refl _ _) _
    clear hk
    go_wp2_with fail
    refine (implApp_no _ _ (by unfold maxLen; omega) (tab_below HT.out HB1.out) HO.out).mono ?_
    rintro e w2 ⟨rfl, hb2⟩
    have HB2 := Lib.hid hb2
    clear hb2
    go_wp2_with fail
    go_ret2
    exact ⟨rfl, HB1.out.trans (HB2.out.mono HB1.out.size)⟩

/-- The first of the parts that l1Split leaves. -/
theorem first_cell {w : World} {base g cap : Nat} {l : List UInt8} (h : OwnsStrs w base (.slice (some ⟨g, 0, none⟩) (parts 35 l).length cap) (parts 35 l)) :
    w.cell? ⟨g, 0, none⟩ = some (.string ⟨(Plain.ahead l).toArray⟩) := by
  have h2 : w.ownsRow base 9 1 (.slice (some ⟨g, 0, none⟩) (parts 35 l).length cap) (parts 35 l).length ((parts 35 l).map strv) := h
  have hp := parts_first l
  have hl : 0 < (parts 35 l).length := by
    cases hpp : parts 35 l with
    | nil => rw [hpp] at hp; cases hp
    | cons a r => simp
  rw [h2.cellAt 0 (by omega), List.getElem?_map, hp]
  rfl

theorem specVer_yes (s : ByteArray) (w : World) (h : VerOk s) : Calls Tryd.prog 20 #[.string s] w (VerPost s w) := by
  have hs : s.size ≤ 4000 := h.1
  have hq : ((sealT (aheadT s)).toList == s.toList) = true := by rw [h.2]; simp
  have hz := aheadT_size s
  clear h
  go_enter Tryd.func20, Tryd.ntmps20
  go_wp2_with fail
  refine (l1Split_any s 35 _ _ (by omega) rfl).mono ?_
  rintro e w1 ⟨g, cap, rfl, ho, hb1⟩
  have hc : w1.cell? ⟨g, 0, none⟩ = some (.string (aheadT s)) := first_cell ho
  have hp : 0 < (parts 35 s.data.toList).length := by unfold parts; simp
  have HB1 := Lib.hid hb1
  clear hb1 ho
  generalize (parts 35 s.data.toList).length = n at *
  go_wp2_with fail
  refine (seal_any _ _ (by omega)).mono ?_
  rintro e w2 ⟨rfl, hb2⟩
  have HB2 := Lib.hid hb2
  clear hb2
  go_wp2
  go_ret2
  exact ⟨rfl, HB1.out.trans (HB2.out.mono HB1.out.size)⟩

theorem specVer_no (s : ByteArray) (w : World) (hm : s.size ≤ maxLen) (h : ¬ VerOk s) : Calls Tryd.prog 20 #[.string s] w (NoText w) := by
  by_cases hs : s.size ≤ 4000
  · have hq : ((sealT (aheadT s)).toList == s.toList) = false := toList_ne (fun e => h ⟨hs, e⟩)
    have hz := aheadT_size s
    clear h hm
    go_enter Tryd.func20, Tryd.ntmps20
    go_wp2_with fail
    refine (l1Split_any s 35 _ _ (by omega) rfl).mono ?_
    rintro e w1 ⟨g, cap, rfl, ho, hb1⟩
    have hc : w1.cell? ⟨g, 0, none⟩ = some (.string (aheadT s)) := first_cell ho
    have hp : 0 < (parts 35 s.data.toList).length := by unfold parts; simp
    have HB1 := Lib.hid hb1
    clear hb1 ho
    generalize (parts 35 s.data.toList).length = n at *
    go_wp2_with fail
    refine (seal_any _ _ (by omega)).mono ?_
    rintro e w2 ⟨rfl, hb2⟩
    have HB2 := Lib.hid hb2
    clear hb2
    go_wp2
    go_ret2
    exact ⟨rfl, HB1.out.trans (HB2.out.mono HB1.out.size)⟩
  · have h2 : 4000 < s.size := by omega
    unfold maxLen at hm
    clear h hs
    go_enter Tryd.func20, Tryd.ntmps20
    go_wp2
    go_ret2
    exact ⟨rfl, Below.refl _ _⟩
end Go.Proofs.YtdbkciffdfdfbaaDoor
