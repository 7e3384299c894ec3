/-
  Plain facts: lists without repetition that have the same are as long. No program stands in this text.
-/
import Derived.Test.YtmcmpedmgibmkabGreatPlainA
namespace Go.Proofs.YtmcmpedmgibmkabGreat.Plain
theorem len_sub {α : Type} [DecidableEq α] : ∀ (A B : List α), A.Nodup → (∀ x, x ∈ A → x ∈ B) → A.length ≤ B.length
  | [], _, _, _ => Nat.zero_le _
  | a :: A, B, hn, h => by
    have ha : a ∈ B := h a (by simp)
    obtain ⟨hna, hnA⟩ := List.nodup_cons.1 hn
    have ih := len_sub A (B.erase a) hnA fun x hx => (List.mem_erase_of_ne (fun (e : x = a) => hna (by rw [← e]; exact hx))).2 (h x (by simp [hx]))
    have hl := List.length_erase_of_mem ha
    have hp := List.length_pos_of_mem ha
    simp only [List.length_cons]; omega
theorem len_same {α : Type} [DecidableEq α] {A B : List α} (hA : A.Nodup) (hB : B.Nodup) (h : ∀ x, x ∈ A ↔ x ∈ B) : A.length = B.length :=
  Nat.le_antisymm (len_sub A B hA fun x hx => (h x).1 hx) (len_sub B A hB fun x hx => (h x).2 hx)
end Go.Proofs.YtmcmpedmgibmkabGreat.Plain
