/-
  Plain facts on joining texts with a separator. No program stands in this text.
-/
import Derived.Lib.Join
namespace Go.Proofs.Ytekdodlkimgbhaa.Plain
open Go.Lib

def total (ss : List ByteArray) : Nat := (ss.map ByteArray.size).sum
def joinT (ss : List ByteArray) (sep : ByteArray) : ByteArray := ⟨(Lib.join (ss.map (·.data.toList)) sep.data.toList).toArray⟩

theorem total_snoc (ss : List ByteArray) (x : ByteArray) : total (ss ++ [x]) = total ss + x.size := by
  unfold total; simp
theorem total_take_le (ss : List ByteArray) (k : Nat) : total (ss.take k) ≤ total ss := by
  have e : total (ss.take k ++ ss.drop k) = total (ss.take k) + total (ss.drop k) := by
    unfold total; rw [List.map_append, List.sum_append]
  rw [List.take_append_drop] at e
  omega
theorem size_le_total (ss : List ByteArray) (x : ByteArray) (h : x ∈ ss) : x.size ≤ total ss := by
  induction ss with
  | nil => simp at h
  | cons y r ih =>
    unfold total at ih ⊢
    simp only [List.map_cons, List.sum_cons]
    rcases List.mem_cons.1 h with rfl | h
    · omega
    · have := ih h; omega
theorem take_snoc' (ss : List ByteArray) (k : Nat) (h : k < ss.length) : ss.take (k + 1) = ss.take k ++ [ss[k]] :=
  List.take_succ_eq_append_getElem h

theorem joinT_one (x sep : ByteArray) : joinT [x] sep = x := by
  unfold joinT
  simp only [List.map_cons, List.map_nil, join_one]
theorem joinT_snoc (ss : List ByteArray) (x sep : ByteArray) (h : ss ≠ []) : joinT (ss ++ [x]) sep = joinT ss sep ++ sep ++ x := by
  cases ss with
  | nil => exact absurd rfl h
  | cons y r =>
    unfold joinT
    simp only [List.cons_append, List.map_cons, List.map_append, List.map_nil, join_cons]
    apply ByteArray.ext
    apply Array.toList_inj.mp
    simp [joinTail]
theorem joinT_size (ss : List ByteArray) (sep : ByteArray) (hs : sep.size = 1) (h : ss ≠ []) : (joinT ss sep).size + 1 = total ss + ss.length := by
  cases ss with
  | nil => exact absurd rfl h
  | cons y r =>
    have e : ∀ r : List ByteArray, (joinTail sep.data.toList (r.map (·.data.toList))).length = total r + r.length := by
      intro r
      have h1 : sep.data.toList.length = 1 := by simpa using hs
      induction r with
      | nil => rfl
      | cons z r ih =>
        have ez : z.data.toList.length = z.size := by simp
        have h2 : (joinTail sep.data.toList ((z :: r).map (·.data.toList))).length = sep.data.toList.length + z.data.toList.length + (joinTail sep.data.toList (r.map (·.data.toList))).length := by
          simp [joinTail]; omega
        have h3 : total (z :: r) = z.size + total r := rfl
        rw [h2, h1, ez, ih, h3]
        simp
        omega
    have e2 : (joinT (y :: r) sep).size = y.size + (joinTail sep.data.toList (r.map (·.data.toList))).length := by
      unfold joinT
      rw [List.map_cons, join_cons]
      show (List.toArray _).size = _
      simp
    have h3 : total (y :: r) = y.size + total r := rfl
    rw [e2, e, h3]
    simp
    omega

/-- What JoinStrings takes, at a separator of one byte b. -/
def JoinOk (ss : List ByteArray) (sep : ByteArray) (b : UInt8) : Prop := ss ≠ [] ∧ (∀ s ∈ ss, b ∉ s.data.toList) ∧ (joinT ss sep).size ≤ 4000
theorem joinT_take_le (ss : List ByteArray) (sep : ByteArray) (hs : sep.size = 1) (k : Nat) (h : ss.take k ≠ []) : (joinT (ss.take k) sep).size ≤ (joinT ss sep).size := by
  have hne : ss ≠ [] := by intro e; subst e; simp at h
  have h1 := joinT_size (ss.take k) sep hs h
  have h2 := joinT_size ss sep hs hne
  have h3 := total_take_le ss k
  have h4 : (ss.take k).length ≤ ss.length := by simp; omega
  omega
end Go.Proofs.Ytekdodlkimgbhaa.Plain
