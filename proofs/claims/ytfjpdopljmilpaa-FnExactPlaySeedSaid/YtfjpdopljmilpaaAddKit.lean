/-
  Small words on replays that are made: allocated, grown, written. (Beside ConcatT and AddTop, which have their own.)
-/
import Derived.Test.YtfjpdopljmilpaaRepOwn
namespace Go.Proofs.Ytfjpdopljmilpaa
open Go.RowKit Plain
set_option linter.unusedVariables false
set_option linter.unusedSimpArgs false
theorem wp_allocRp {w : World} {o : Oper} {a : Act} {K : Act → World → Prop} {Q : Exit → Act → World → Prop} (ho : o.op = .alloc 29)
    (h : K (a.put o.dst (.pointer (some ⟨w.heap.size, 0, none⟩))) (w.alloc (.cells (rpl (fun _ => 0) (.slice none 0 0)) 29))) : o.wp Try.prog a w K Q := by
  have z17 := zeroRp
  go_simp
  first
  | exact h
  | (simp only [ho] at *; exact h)
theorem Rp.grown {w w' : World} {b : Nat} {f : Nat → Int} {v : Value} {t : TypeId} {r : Option Nat} (h : Rp w b f v t) (hg : w.grownBy w' r) (hne : r ≠ some b) : Rp w' b f v t := by
  obtain ⟨_, _, _, _, hk⟩ := hg
  exact (hk b h.lt (fun e => hne e.symm)).trans h
theorem grown_cellAt (w : World) (p : Addr) (x : Value) : w.grownBy (w.setCell p x) (some p.block) := by
  refine ⟨rfl, rfl, rfl, ?_, fun j hj hne => heap_setCell_other w p j x (fun e => hne (by rw [e]))⟩
  simp
theorem OwnsL.nil0 {t : TypeId} {m : Nat} (w : World) (b : Nat) : OwnsL t m w b (.slice none 0 0) [] := ⟨by simp, .inl ⟨rfl, rfl⟩⟩
theorem OwnsL.form {t : TypeId} {m b n : Nat} {w : World} {v : Value} {L : List (List Int)} (h : OwnsL t m w b v L) (hn : L.length = n) : ∃ a c, v = .slice a n c := by
  subst hn
  rcases h.2 with ⟨rfl, h0⟩ | ⟨g, cap, cur, rfl, _⟩
  · rw [h0]; exact ⟨_, _, rfl⟩
  · exact ⟨_, _, rfl⟩
end Go.Proofs.Ytfjpdopljmilpaa
