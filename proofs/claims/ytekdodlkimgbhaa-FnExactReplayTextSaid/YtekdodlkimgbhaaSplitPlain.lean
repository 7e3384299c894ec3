/-
  Plain facts on splitting a list of bytes at a byte. No program stands in this text.
-/
import Derived.Test.YtekdodlkimgbhaaPlainA
namespace Go.Proofs.Ytekdodlkimgbhaa.Plain

/-- One byte more: the parts that are done, and the one at hand. -/
def spStep (b : UInt8) (st : List (List UInt8) × List UInt8) (c : UInt8) : List (List UInt8) × List UInt8 := if c = b then (st.1 ++ [st.2], []) else (st.1, st.2 ++ [c])
def sp (b : UInt8) (l : List UInt8) : List (List UInt8) × List UInt8 := l.foldl (spStep b) ([], [])
/-- The parts between the bytes b. -/
def parts (b : UInt8) (l : List UInt8) : List (List UInt8) := (sp b l).1 ++ [(sp b l).2]

theorem sp_snoc (b : UInt8) (l : List UInt8) (c : UInt8) : sp b (l ++ [c]) = spStep b (sp b l) c := by
  unfold sp; rw [List.foldl_append]; rfl
/-- Where the walk stands behind k bytes: the part at hand began at fr. -/
def At (b : UInt8) (s : ByteArray) (k fr : Nat) (done : List (List UInt8)) (cur : List UInt8) : Prop :=
  sp b (s.data.toList.take k) = (done, cur) ∧ fr ≤ k ∧ k ≤ s.size ∧ (s.data.toList.take k).drop fr = cur ∧ done.length ≤ k

theorem At.start (b : UInt8) (s : ByteArray) : At b s 0 0 [] [] := ⟨by simp [sp], by omega, by omega, by simp, by simp⟩
theorem At.cut {b : UInt8} {s : ByteArray} {k fr : Nat} {done : List (List UInt8)} {cur : List UInt8} (h : At b s k fr done cur) (hk : k < s.size) (hc : s[k] = b) : At b s (k + 1) (k + 1) (done ++ [cur]) [] := by
  obtain ⟨h1, h2, _, h3, h4⟩ := h
  refine ⟨?_, by omega, by omega, ?_, by simp; omega⟩
  · rw [take_snoc s k hk, sp_snoc, h1, spStep, if_pos hc]
  · rw [List.drop_eq_nil_iff]; simp; omega
theorem At.on {b : UInt8} {s : ByteArray} {k fr : Nat} {done : List (List UInt8)} {cur : List UInt8} (h : At b s k fr done cur) (hk : k < s.size) (hc : s[k] ≠ b) : At b s (k + 1) fr done (cur ++ [s[k]]) := by
  obtain ⟨h1, h2, h0, h3, h4⟩ := h
  refine ⟨?_, by omega, by omega, ?_, by omega⟩
  · rw [take_snoc s k hk, sp_snoc, h1, spStep, if_neg hc]
  · rw [take_snoc s k hk, List.drop_append_of_le_length (by simp; omega), h3]
theorem At.piece {b : UInt8} {s : ByteArray} {k fr : Nat} {done : List (List UInt8)} {cur : List UInt8} (h : At b s k fr done cur) : s.extract fr k = ⟨cur.toArray⟩ := by
  obtain ⟨_, h2, h0, h3, _⟩ := h
  apply ByteArray.ext
  apply Array.toList_inj.mp
  rw [ByteArray.data_extract, Array.toList_extract, List.extract_eq_take_drop, List.toList_toArray, ← h3, List.drop_take]
theorem At.all {b : UInt8} {s : ByteArray} {fr : Nat} {done : List (List UInt8)} {cur : List UInt8} (h : At b s s.size fr done cur) : parts b s.data.toList = done ++ [cur] := by
  obtain ⟨h1, _⟩ := h
  rw [take_all] at h1
  unfold parts
  rw [h1]
theorem parts_len (b : UInt8) (l : List UInt8) : (parts b l).length ≤ l.length + 1 := by
  have h : ∀ (l : List UInt8) (st : List (List UInt8) × List UInt8), (l.foldl (spStep b) st).1.length ≤ st.1.length + l.length := by
    intro l
    induction l with
    | nil => intro st; simp
    | cons c l ih =>
      intro st
      have := ih (spStep b st c)
      have e : (spStep b st c).1.length ≤ st.1.length + 1 := by unfold spStep; split <;> simp
      simp only [List.foldl_cons, List.length_cons]
      omega
  have := h l ([], [])
  unfold parts sp
  simp at this ⊢
  omega
end Go.Proofs.Ytekdodlkimgbhaa.Plain
