/-
  Plain facts on the checksum of chapter 1: a fold over bytes, its bounds, one step more, and that changing one byte changes it. No program stands in this text.
-/
namespace Go.Proofs.Ytpiegllffkjneaa.Plain

/-- One step of the checksum. -/
def ckStep (h : Int) (c : UInt8) : Int := (41 * h + (c.toNat : Int) + 1) % 999979
/-- The checksum of a list of bytes. -/
def ck (l : List UInt8) : Int := l.foldl ckStep 7

theorem ckStep_bd (h : Int) (c : UInt8) : 0 ≤ ckStep h c ∧ ckStep h c < 999979 := by
  unfold ckStep; omega
theorem ck_snoc (l : List UInt8) (c : UInt8) : ck (l ++ [c]) = ckStep (ck l) c := by
  unfold ck; rw [List.foldl_append]; rfl
theorem foldl_bd (l : List UInt8) : ∀ h : Int, 0 ≤ h → h < 999979 → 0 ≤ l.foldl ckStep h ∧ l.foldl ckStep h < 999979 := by
  induction l with
  | nil => intro h a b; exact ⟨a, b⟩
  | cons c l ih => intro h _ _; exact ih _ (ckStep_bd h c).1 (ckStep_bd h c).2
theorem ck_bd (l : List UInt8) : 0 ≤ ck l ∧ ck l < 999979 := foldl_bd l 7 (by omega) (by omega)

theorem take_snoc (s : ByteArray) (k : Nat) (h : k < s.size) : s.data.toList.take (k + 1) = s.data.toList.take k ++ [s[k]] := by
  rw [List.take_succ_eq_append_getElem (by simpa using h)]; rfl
theorem take_all (s : ByteArray) : s.data.toList.take s.size = s.data.toList := List.take_of_length_le (by simp)
theorem byte_lt (c : UInt8) : (c.toNat : Int) < 256 := by have := c.toNat_lt; omega

end Go.Proofs.Ytpiegllffkjneaa.Plain
