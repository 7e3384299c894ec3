/-
  Rows of strings that are read, and the contracts of the laws' helpers on them: szStringS, toStringS, eqStringS.
-/
import Derived.Test.YtekdodlkimgbhaaBaseA
import Derived.Test.YtekdodlkimgbhaaJoinPlain
import Derived.OwnWalk
import Derived.Deep.QuietTactic
import Derived.BigQuiet
namespace Go.Proofs.Ytekdodlkimgbhaa
open Go.RowKit Plain

/-- The value v is a slice that reads as these strings. -/
def StrRow (w : World) (v : Value) (ss : List ByteArray) : Prop :=
  (∃ a cap, v = .slice a 0 cap ∧ ss = []) ∨
  ∃ b o cap, v = .slice (some ⟨b, o, none⟩) ss.length cap ∧ ss.length ≤ cap ∧ b < w.heap.size ∧ ∀ j (h : j < ss.length), w.cell? ⟨b, o + j, none⟩ = some (.string ss[j])
theorem StrRow.below {w w' : World} {v : Value} {ss : List ByteArray} (h : StrRow w v ss) (hb : Below w.heap.size w w') : StrRow w' v ss := by
  rcases h with h | ⟨b, o, cap, rfl, h0, h1, h2⟩
  · exact .inl h
  · exact .inr ⟨b, o, cap, rfl, h0, Nat.lt_of_lt_of_le h1 hb.size, fun j hj => (hb.cell (p := ⟨b, o + j, none⟩) h1).trans (h2 j hj)⟩
theorem StrRow.of_own {w : World} {base g cap n : Nat} {ss : List ByteArray} (h : w.ownsRow base 9 1 (.slice (some ⟨g, 0, none⟩) n cap) n (ss.map Value.string)) : StrRow w (.slice (some ⟨g, 0, none⟩) n cap) ss := by
  have h1 : ss.length = n := by have := h.1; simpa using this
  subst h1
  have hlt := (h.lt g rfl).2
  have hcap : ss.length ≤ cap := by
    rcases h.2 with ⟨h2, _⟩ | ⟨g', cap', cur, h2, _, _, h3, _⟩
    · cases h2
    · cases h2; exact h3
  refine .inr ⟨g, 0, cap, rfl, hcap, hlt, fun j hj => ?_⟩
  have := h.cellAt j (by omega)
  rw [Nat.zero_add, this, List.getElem?_map, List.getElem?_eq_getElem hj]
  rfl
theorem IsStrs.row {w : World} {a : Option Addr} {len cap : Nat} {z : List ByteArray} (h : IsStrs w a len cap z) : ∃ ss, StrRow w (.slice a len cap) ss ∧ (∀ s ∈ ss, s.size ≤ maxLen) ∧ ss.length ≤ maxLen := by
  rcases h with ⟨rfl, rfl, rfl, rfl⟩ | ⟨x, rfl, h1, h2, h3, h4, h5⟩
  · exact ⟨[], .inl ⟨_, _, rfl, rfl⟩, by simp, by simp⟩
  · by_cases h0 : len = 0
    · subst h0
      exact ⟨[], .inl ⟨_, _, rfl, rfl⟩, by simp, by simp⟩
    · obtain ⟨b, o, sp⟩ := x
      have hc := h4 0 (by omega)
      have hsp : sp = none := by simpa [Addr.add] using World.cell?_spot hc
      subst hsp
      have hb : b < w.heap.size := by simpa [Addr.add] using World.block_lt_of_cell? w _ hc
      have hl : (z.take len).length = len := by simp; omega
      refine ⟨z.take len, .inr ⟨b, o, cap, by rw [hl], by omega, hb, fun j hj => ?_⟩, fun s hs => h5 s (List.mem_of_mem_take hs), by omega⟩
      have := h4 j (by omega)
      have e : (⟨b, o, none⟩ : Addr).add j = ⟨b, o + j, none⟩ := by unfold Addr.add; split <;> simp_all
      rw [e] at this
      rw [this, List.getElem_take, List.getD_eq_getElem?_getD, List.getElem?_eq_getElem (by omega)]
      rfl


theorem infoS : (Try.prog.info? 9).map (fun i => (i.zero, i.size, i.bytes)) = some (some (.string ByteArray.empty), 1, 16) := by kernel_rfl
/-- What stands in the copy behind k rounds. -/
def mix (ss : List ByteArray) (M : List Value) (k : Nat) : List Value := (ss.take k).map Value.string ++ M.drop k
theorem mix_zero (ss : List ByteArray) (M : List Value) : mix ss M 0 = M := by simp [mix]
theorem mix_step (ss : List ByteArray) (M : List Value) (k : Nat) (h : k < ss.length) (hm : M.length = ss.length) : (mix ss M k).set k (.string ss[k]) = mix ss M (k + 1) := by
  unfold mix
  have hl : ((ss.take k).map Value.string).length = k := by simp; omega
  rw [List.set_append_right _ _ (by omega), hl, Nat.sub_self, take_snoc' ss k h, List.map_append, List.append_assoc]
  have hd : M.drop k = M[k]'(by omega) :: M.drop (k + 1) := (List.getElem_cons_drop (by omega)).symm
  rw [hd]
  rfl
theorem mix_end (ss : List ByteArray) (M : List Value) (hm : M.length = ss.length) : mix ss M ss.length = ss.map Value.string := by
  unfold mix
  rw [List.take_length, List.drop_eq_nil_of_le (by omega), List.append_nil]
theorem mix_len (ss : List ByteArray) (M : List Value) (k : Nat) (h : k ≤ ss.length) (hm : M.length = ss.length) : (mix ss M k).length = ss.length := by
  unfold mix; simp; omega


end Go.Proofs.Ytekdodlkimgbhaa
