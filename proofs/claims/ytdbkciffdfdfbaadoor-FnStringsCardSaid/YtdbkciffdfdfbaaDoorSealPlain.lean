/-
  Plain facts on sealed texts: what stands ahead of the first mark, and when a text is sealed. No program stands in this text.
-/
import Derived.Test.YtdbkciffdfdfbaaDoorNumPlain
import Derived.Test.YtdbkciffdfdfbaaDoorSplitPlain
import Derived.Lib.Bytealg
import Derived.Lib.IndexLaws
namespace Go.Proofs.YtdbkciffdfdfbaaDoor.Plain
open Go.Lib

/-- A text, the mark and its checksum's numeral. -/
def sealT (t : ByteArray) : ByteArray := t ++ ⟨#[35]⟩ ++ num (ck t.data.toList)
/-- What AppendChecksum takes. -/
def AppOk (t : ByteArray) : Prop := t.size ≤ 4000 ∧ 35 ∉ t.data.toList ∧ (sealT t).size ≤ 4000
/-- What stands ahead of the first mark. -/
def ahead (l : List UInt8) : List UInt8 := l.takeWhile (fun c => c != 35)
def aheadT (s : ByteArray) : ByteArray := ⟨(ahead s.data.toList).toArray⟩
/-- What VerifyChecksum takes. -/
def VerOk (s : ByteArray) : Prop := s.size ≤ 4000 ∧ sealT (aheadT s) = s

theorem num_ck_size (t : ByteArray) : (num (ck t.data.toList)).size ≤ 8 := by
  obtain ⟨h1, h2⟩ := ck_bd t.data.toList
  exact num_size _ (by omega) (by omega)
theorem sealT_size (t : ByteArray) : t.size ≤ (sealT t).size := by
  unfold sealT; rw [ByteArray.size_append, ByteArray.size_append]; omega
theorem ahead_le (l : List UInt8) : (ahead l).length ≤ l.length := (List.takeWhile_prefix _).length_le
theorem aheadT_size (s : ByteArray) : (aheadT s).size ≤ s.size := by
  have : (aheadT s).size = (ahead s.data.toList).length := by unfold aheadT; rfl
  rw [this]
  have := ahead_le s.data.toList
  simpa using this
theorem ahead_not (l : List UInt8) : 35 ∉ ahead l := by
  unfold ahead
  intro h
  have := List.all_takeWhile (p := fun c : UInt8 => c != 35) (l := l)
  rw [List.all_eq_true] at this
  have h2 := this 35 h
  simp at h2

/-- The first part between marks. -/
theorem sp_first (l : List UInt8) : ∀ (done : List (List UInt8)) (cur f : List UInt8), (done = [] → f = cur ++ ahead l) → (∀ h, done[0]? = some h → f = h) →
    ((l.foldl (spStep 35) (done, cur)).1 ++ [(l.foldl (spStep 35) (done, cur)).2])[0]? = some f := by
  induction l with
  | nil =>
    intro done cur f h1 h2
    simp only [List.foldl_nil]
    cases done with
    | nil => simp [h1 rfl, ahead]
    | cons d r => simp; exact (h2 d (by simp)).symm
  | cons c l ih =>
    intro done cur f h1 h2
    simp only [List.foldl_cons, spStep]
    by_cases hc : c = 35
    · rw [if_pos hc]
      refine ih (done ++ [cur]) [] f (by simp) ?_
      intro h hh
      cases done with
      | nil =>
        simp at hh
        rw [h1 rfl, ← hh, hc]
        simp [ahead]
      | cons d r => simp at hh; exact h2 h (by simp [hh])
    · rw [if_neg hc]
      refine ih done (cur ++ [c]) f ?_ h2
      intro hd
      rw [h1 hd]
      simp [ahead, hc]
theorem parts_first (l : List UInt8) : (parts 35 l)[0]? = some (ahead l) := by
  unfold parts sp
  exact sp_first l [] [] (ahead l) (fun _ => by simp) (fun h hh => by simp at hh)

/-- Where the index of the mark is. -/
theorem ahead_index (l : List UInt8) (i : Nat) (h : indexByte l 35 = i) : l.take i = ahead l ∧ i < l.length := by
  obtain ⟨h1, h2⟩ := indexByte_some h
  have hi : i < l.length := by
    by_cases hl : i < l.length
    · exact hl
    · rw [List.getElem?_eq_none (by omega)] at h1; cases h1
  refine ⟨?_, hi⟩
  unfold ahead
  have e : l = l.take i ++ l.drop i := (List.take_append_drop i l).symm
  have hd : l.drop i = 35 :: l.drop (i + 1) := by
    rw [← List.getElem_cons_drop hi]
    rw [List.getElem?_eq_getElem hi] at h1
    injection h1 with h1
    rw [h1]
  conv => rhs; rw [e, hd]
  rw [List.takeWhile_append_of_pos]
  · simp
  · intro c hc
    rw [List.mem_take_iff_getElem] at hc
    obtain ⟨k, hk, rfl⟩ := hc
    have := h2 k (by omega)
    rw [List.getElem?_eq_getElem (by omega)] at this
    simp
    intro e2
    exact this (by rw [e2])
theorem ahead_none (l : List UInt8) (h : indexByte l 35 = -1) : ahead l = l ∧ 35 ∉ l := by
  have h2 := indexByte_none h
  have h3 : 35 ∉ l := by
    intro hm
    obtain ⟨k, hk, e⟩ := List.getElem_of_mem hm
    exact h2 k (by rw [List.getElem?_eq_getElem hk, e])
  refine ⟨?_, h3⟩
  unfold ahead
  have := List.takeWhile_append_of_pos (p := fun c : UInt8 => c != 35) (l₁ := l) (l₂ := []) (fun c hc => by
    simp
    intro e
    exact h3 (by rw [← e]; exact hc))
  simpa using this
theorem index_mem (l : List UInt8) : (0 ≤ indexByte l 35) ↔ 35 ∈ l := by
  have hg := indexByte_ge l 35
  constructor
  · intro h
    obtain ⟨i, hi⟩ := Int.eq_ofNat_of_zero_le h
    obtain ⟨h1, _⟩ := indexByte_some hi
    exact List.mem_of_getElem? h1
  · intro h
    by_cases h0 : 0 ≤ indexByte l 35
    · exact h0
    · exact absurd h (ahead_none l (by omega)).2
/-- What is verified can be appended to. -/
theorem VerOk.app {s : ByteArray} (h : VerOk s) : AppOk (aheadT s) := by
  obtain ⟨h1, h2⟩ := h
  refine ⟨Nat.le_trans (aheadT_size s) h1, ?_, by rw [h2]; exact h1⟩
  unfold aheadT
  simpa using ahead_not s.data.toList
theorem verOk_of {s : ByteArray} (h : AppOk (aheadT s)) (e : sealT (aheadT s) = s) : VerOk s := ⟨by rw [← e]; exact h.2.2, e⟩
end Go.Proofs.YtdbkciffdfdfbaaDoor.Plain
