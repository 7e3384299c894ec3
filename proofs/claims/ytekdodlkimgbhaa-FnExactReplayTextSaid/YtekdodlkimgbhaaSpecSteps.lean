/-
  The contracts of the reference's l5Steps, l5All and StepsOf: the steps of a valid board.
-/
import Derived.Test.YtekdodlkimgbhaaStepMem
import Derived.Test.YtekdodlkimgbhaaSpecSlide
import Derived.Test.YtekdodlkimgbhaaDistKit
namespace Go.Proofs.Ytekdodlkimgbhaa
open Go.RowKit Plain
attribute [local go_sem] store_new
set_option linter.unusedVariables false
set_option linter.unusedSimpArgs false

theorem cells_at {w : World} {base g cap n : Nat} {f : Nat → Int} (h : OwnsCells w base (.slice (some ⟨g, 0, none⟩) n cap) n (empL f 16)) (hn : n = empN f 16 := by rfl) : CAt w g (n * 2) (empF f) := by
  subst hn
  have hl := emp_len f 16
  unfold OwnsCells at h
  rw [ints_mk, hl] at h
  obtain ⟨g', c', e, _, hc⟩ := CRow.of_own h
  cases e
  exact hc
theorem ownsRow_succ2 {w : World} {b e size n : Nat} {v : Value} {xs : List Value} (h : w.ownsRow b e size v (n + 2) xs) : ∃ g cap, v = .slice (some ⟨g, 0, none⟩) (n + 2) cap := ownsRow_succ (k := n + 1) h
/-- The slice value v owns a row of n lists. -/
def OwnsN (t : TypeId) (m : Nat) (w : World) (base : Nat) (v : Value) (n : Nat) (L : List (List Int)) : Prop := w.ownsRow base t m v n (L.flatten.map (Value.int .i64))
theorem OwnsN.out {t : TypeId} {m : Nat} {w : World} {base : Nat} {v : Value} {n : Nat} {L : List (List Int)} (h : OwnsN t m w base v n L) (hn : n = L.length) : OwnsL t m w base v L := by subst hn; exact h
theorem step_flat (d : Int) (E : Nat → Int) (i : Nat) : ((stps d E i).flatten.map (Value.int .i64)) ++ (mk (2 * 4) fun j => twoF (stepF d (fun j => E (i * 2 + j)) 1) (stepF d (fun j => E (i * 2 + j)) 2) (0 + j)).toList = (stps d E (i + 1)).flatten.map (Value.int .i64) := by
  have e : stps d E (i + 1) = stps d E i ++ [cl 4 (stp d E i 1), cl 4 (stp d E i 2)] := rfl
  rw [e, List.flatten_append, List.map_append]
  rfl
end Go.Proofs.Ytekdodlkimgbhaa
