/-
  A slice of integers that came in, and the laws' copy of it. No condition.
-/
import Derived.Test.YtfjpdopljmilpaaRowsKit
import Derived.Test.YtfjpdopljmilpaaBaseA
namespace Go.Proofs.Ytfjpdopljmilpaa
open Go.RowKit Plain

/-- The value v is a slice that reads as these numbers. -/
def ZRow (w : World) (v : Value) (zs : List Int) : Prop :=
  (∃ a cap, v = .slice a 0 cap ∧ zs = []) ∨
  ∃ b o cap, v = .slice (some ⟨b, o, none⟩) zs.length cap ∧ zs.length ≤ cap ∧ b < w.heap.size ∧ ∀ j (h : j < zs.length), w.cell? ⟨b, o + j, none⟩ = some (.int .i64 zs[j])
theorem ZRow.below {w w' : World} {v : Value} {zs : List Int} (h : ZRow w v zs) (hb : Below w.heap.size w w') : ZRow w' v zs := by
  rcases h with h | ⟨b, o, cap, rfl, h0, h1, h2⟩
  · exact .inl h
  · exact .inr ⟨b, o, cap, rfl, h0, Nat.lt_of_lt_of_le h1 hb.size, fun j hj => (hb.cell (p := ⟨b, o + j, none⟩) h1).trans (h2 j hj)⟩
theorem IsRow.zrow {w : World} {a : Option Addr} {len cap : Nat} {z : List Int} (h : IsRow .i64 w a len cap z) : ∃ zs, ZRow w (.slice a len cap) zs ∧ zs.length = len := by
  rcases h with ⟨rfl, rfl, rfl, rfl⟩ | ⟨x, rfl, h1, h2, h3, h4, h5⟩
  · exact ⟨[], .inl ⟨_, _, rfl, rfl⟩, rfl⟩
  · by_cases h0 : len = 0
    · subst h0
      exact ⟨[], .inl ⟨_, _, rfl, rfl⟩, rfl⟩
    · obtain ⟨b, o, sp⟩ := x
      have hc := h4 0 (by omega)
      have hsp : sp = none := by simpa [Addr.add] using World.cell?_spot hc
      subst hsp
      have hb : b < w.heap.size := by simpa [Addr.add] using World.block_lt_of_cell? w _ hc
      have hl : (z.take len).length = len := by simp; omega
      refine ⟨z.take len, .inr ⟨b, o, cap, by rw [hl], by omega, hb, fun j hj => ?_⟩, hl⟩
      have := h4 j (by omega)
      have e : (⟨b, o, none⟩ : Addr).add j = ⟨b, o + j, none⟩ := by unfold Addr.add; split <;> simp_all
      rw [e] at this
      rw [this, List.getElem_take, List.getD_eq_getElem?_getD, List.getElem?_eq_getElem (by omega)]
      rfl
/-- What stands in the copy behind k rounds. -/
def mixZ (zs : List Int) (M : List Value) (k : Nat) : List Value := (zs.take k).map (Value.int .i64) ++ M.drop k
theorem mixZ_zero (zs : List Int) (M : List Value) : mixZ zs M 0 = M := by simp [mixZ]
theorem take_snocZ (zs : List Int) (k : Nat) (h : k < zs.length) : zs.take (k + 1) = zs.take k ++ [zs[k]] := by
  rw [List.take_add_one, List.getElem?_eq_getElem h]; rfl
theorem mixZ_step (zs : List Int) (M : List Value) (k : Nat) (h : k < zs.length) (hm : M.length = zs.length) : (mixZ zs M k).set k (.int .i64 zs[k]) = mixZ zs M (k + 1) := by
  unfold mixZ
  have hl : ((zs.take k).map (Value.int .i64)).length = k := by simp; omega
  rw [List.set_append_right _ _ (by omega), hl, Nat.sub_self, take_snocZ zs k h, List.map_append, List.append_assoc]
  have hd : M.drop k = M[k]'(by omega) :: M.drop (k + 1) := (List.getElem_cons_drop (by omega)).symm
  rw [hd]
  rfl
theorem mixZ_end (zs : List Int) (M : List Value) (hm : M.length = zs.length) : mixZ zs M zs.length = zs.map (Value.int .i64) := by
  unfold mixZ
  rw [List.take_length, List.drop_eq_nil_of_le (by omega), List.append_nil]
theorem mixZ_len (zs : List Int) (M : List Value) (k : Nat) (h : k ≤ zs.length) (hm : M.length = zs.length) : (mixZ zs M k).length = zs.length := by
  unfold mixZ; simp; omega
end Go.Proofs.Ytfjpdopljmilpaa
