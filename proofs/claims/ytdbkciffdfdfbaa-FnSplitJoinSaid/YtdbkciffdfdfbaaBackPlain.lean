/-
  Plain: the parts of a text, joined again, are the text. No program stands in this text.
-/
import Derived.Test.YtdbkciffdfdfbaaSplitPlain
import Derived.Test.YtdbkciffdfdfbaaJoinPlain
namespace Go.Proofs.Ytdbkciffdfdfbaa.Plain
open Go.Lib

def ba (l : List UInt8) : ByteArray := ⟨l.toArray⟩
theorem ba_snoc (l : List UInt8) (c : UInt8) : ba (l ++ [c]) = ba l ++ ba [c] := by
  apply ByteArray.ext
  apply Array.toList_inj.mp
  simp [ba]
theorem ba_append (l r : List UInt8) : ba (l ++ r) = ba l ++ ba r := by
  apply ByteArray.ext
  apply Array.toList_inj.mp
  simp [ba]
def jst (sep : ByteArray) (st : List (List UInt8) × List UInt8) : ByteArray := joinT ((st.1 ++ [st.2]).map ba) sep

theorem app_assoc (a b c : ByteArray) : a ++ b ++ c = a ++ (b ++ c) := by
  apply ByteArray.ext
  apply Array.toList_inj.mp
  simp
theorem app_nil (a : ByteArray) : a ++ ba [] = a := by
  apply ByteArray.ext
  apply Array.toList_inj.mp
  simp [ba]
theorem jst_step (sep : ByteArray) (b c : UInt8) (hs : sep = ba [b]) (st : List (List UInt8) × List UInt8) : jst sep (spStep b st c) = jst sep st ++ ba [c] := by
  unfold spStep
  by_cases h : c = b
  · rw [if_pos h]
    unfold jst
    rw [List.map_append, List.map_cons, List.map_nil, joinT_snoc _ _ _ (by simp), app_nil, h, hs]
  · rw [if_neg h]
    unfold jst
    simp only [List.map_append, List.map_cons, List.map_nil]
    by_cases h1 : st.1 = []
    · rw [h1, List.map_nil, List.nil_append, List.nil_append, joinT_one, joinT_one, ba_snoc]
    · have h2 : st.1.map ba ≠ [] := by simpa using h1
      rw [joinT_snoc _ _ _ h2, joinT_snoc _ _ _ h2, ba_snoc, app_assoc, app_assoc, app_assoc]
theorem jst_all (sep : ByteArray) (b : UInt8) (hs : sep = ba [b]) (l : List UInt8) : ∀ st : List (List UInt8) × List UInt8, jst sep (l.foldl (spStep b) st) = jst sep st ++ ba l := by
  induction l with
  | nil => intro st; rw [app_nil]; rfl
  | cons c l ih =>
    intro st
    rw [List.foldl_cons, ih, jst_step sep b c hs, app_assoc, ← ba_append]
    rfl
theorem free_all (b : UInt8) (l : List UInt8) : ∀ st : List (List UInt8) × List UInt8, (∀ p ∈ st.1 ++ [st.2], b ∉ p) → ∀ p ∈ (l.foldl (spStep b) st).1 ++ [(l.foldl (spStep b) st).2], b ∉ p := by
  induction l with
  | nil => intro st h; exact h
  | cons c l ih =>
    intro st h
    rw [List.foldl_cons]
    refine ih _ ?_
    intro p hp
    unfold spStep at hp
    by_cases hc : c = b
    · rw [if_pos hc] at hp
      rcases List.mem_append.1 hp with h1 | h1
      · exact h p h1
      · rw [List.mem_singleton.1 h1]; simp
    · rw [if_neg hc] at hp
      rcases List.mem_append.1 hp with h1 | h1
      · exact h p (List.mem_append_left _ h1)
      · rw [List.mem_singleton.1 h1]
        intro h2
        rcases List.mem_append.1 h2 with h3 | h3
        · exact h st.2 (by simp) h3
        · exact hc (List.mem_singleton.1 h3).symm
theorem join_parts (s sep : ByteArray) (hp : 0 < sep.size) (h1 : sep.size = 1) (hs : s.size ≤ 4000) :
    JoinOk ((parts sep[0] s.data.toList).map ba) sep sep[0] ∧ joinT ((parts sep[0] s.data.toList).map ba) sep = s := by
  have hsep : sep = ba [sep[0]] := by
    apply ByteArray.ext
    apply Array.ext
    · show sep.size = 1; exact h1
    · intro i hi _
      have : i = 0 := by have : i < sep.size := hi; omega
      subst this
      rfl
  have e : joinT ((parts sep[0] s.data.toList).map ba) sep = s := by
    have h := jst_all sep sep[0] hsep s.data.toList ([], [])
    have h2 : jst sep ([], []) = ba [] := by unfold jst; exact joinT_one _ _
    have h3 : ba [] ++ ba s.data.toList = s := by
      apply ByteArray.ext
      apply Array.toList_inj.mp
      simp [ba]
    rw [h2, h3] at h
    exact h
  refine ⟨⟨by simp [parts], ?_, by rw [e]; exact hs⟩, e⟩
  intro x hx
  obtain ⟨p, hp2, rfl⟩ := List.mem_map.1 hx
  have := free_all sep[0] s.data.toList ([], []) (by simp) p hp2
  simpa [ba] using this

theorem less_anti : ∀ x y : List UInt8, Go.Op.bytesLess x y = true → Go.Op.bytesLess y x = false
  | _, [], h => by simp [Go.Op.bytesLess] at h
  | [], _ :: _, _ => by simp [Go.Op.bytesLess]
  | a :: x, b :: y, h => by
    simp only [Go.Op.bytesLess, Bool.or_eq_true, decide_eq_true_eq, Bool.and_eq_true, beq_iff_eq] at h
    simp only [Go.Op.bytesLess, Bool.or_eq_false_iff, decide_eq_false_iff_not, Bool.and_eq_false_iff, beq_eq_false_iff_ne]
    rcases h with h | ⟨rfl, h⟩
    · exact ⟨fun h2 => UInt8.lt_asymm h h2, .inl (fun e => by subst e; exact UInt8.lt_irrefl _ h)⟩
    · exact ⟨UInt8.lt_irrefl _, .inr (less_anti x y h)⟩
end Go.Proofs.Ytdbkciffdfdfbaa.Plain
