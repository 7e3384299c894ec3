/-
  Plain facts: a sealed text of which one byte is changed is not sealed any more. No program stands in this text.
-/
import Derived.Test.YtdbkciffdfdfbaaDoorSealPlain
import Derived.Test.YtdbkciffdfdfbaaDoorReadPlain
namespace Go.Proofs.YtdbkciffdfdfbaaDoor.Plain
open Go.Lib

theorem step_inj (a b : Int) (c : UInt8) (ha : 0 ≤ a) (ha2 : a < 999979) (hb : 0 ≤ b) (hb2 : b < 999979) (h : ckStep a c = ckStep b c) : a = b := by
  unfold ckStep at h; omega
theorem fold_inj (l : List UInt8) : ∀ a b : Int, 0 ≤ a → a < 999979 → 0 ≤ b → b < 999979 → l.foldl ckStep a = l.foldl ckStep b → a = b := by
  induction l with
  | nil => intro a b _ _ _ _ h; exact h
  | cons c l ih =>
    intro a b ha ha2 hb hb2 h
    exact step_inj a b c ha ha2 hb hb2 (ih _ _ (ckStep_bd a c).1 (ckStep_bd a c).2 (ckStep_bd b c).1 (ckStep_bd b c).2 h)
theorem step_ne (h : Int) (c d : UInt8) (hcd : c ≠ d) : ckStep h c ≠ ckStep h d := by
  have h1 := c.toNat_lt
  have h2 := d.toNat_lt
  have h3 : c.toNat ≠ d.toNat := fun e => hcd (UInt8.toNat_inj.mp e)
  unfold ckStep
  omega
/-- Another byte, another checksum. -/
theorem ck_set (P S : List UInt8) (c d : UInt8) (h : c ≠ d) : ck (P ++ c :: S) ≠ ck (P ++ d :: S) := by
  unfold ck
  rw [List.foldl_append, List.foldl_append, List.foldl_cons, List.foldl_cons]
  intro e
  obtain ⟨a, b⟩ := foldl_bd P 7 (by omega) (by omega)
  exact step_ne _ c d h (fold_inj S _ _ (ckStep_bd _ c).1 (ckStep_bd _ c).2 (ckStep_bd _ d).1 (ckStep_bd _ d).2 e)

/-- The mark parts a list in one way. -/
theorem mark_parts : ∀ (A A' B B' : List UInt8), (35 : UInt8) ∉ A → 35 ∉ A' → A ++ 35 :: B = A' ++ 35 :: B' → A = A' ∧ B = B'
  | [], [], B, B', _, _, h => by
    injection h with _ h
    exact ⟨rfl, h⟩
  | [], a' :: A', B, B', _, h', h => by
    injection h with h1 _
    exact absurd (by rw [h1]; simp) h'
  | a :: A, [], B, B', h0, _, h => by
    injection h with h1 _
    exact absurd (by rw [← h1]; simp) h0
  | a :: A, a' :: A', B, B', h0, h', h => by
    injection h with h1 h2
    obtain ⟨e1, e2⟩ := mark_parts A A' B B' (fun hm => h0 (List.mem_cons_of_mem _ hm)) (fun hm => h' (List.mem_cons_of_mem _ hm)) h2
    exact ⟨by rw [h1, e1], e2⟩

theorem itoa_noMark (X : List UInt8) : (35 : UInt8) ∉ itoa (ck X) := by
  obtain ⟨h1, h2⟩ := ck_bd X
  rcases num_shape (ck X) (by omega) (by omega) with ⟨_, D, e, _, _, _, hd⟩ | ⟨hneg, _⟩
  · rw [e]
    intro hm
    have := hd 35 hm
    unfold isDig at this
    simp at this
  · omega
theorem itoa_ck_inj (X Z : List UInt8) (h : itoa (ck X) = itoa (ck Z)) : ck X = ck Z := by
  obtain ⟨h1, h2⟩ := ck_bd X
  obtain ⟨h3, h4⟩ := ck_bd Z
  exact num_inj _ _ (by omega) (by omega) (by omega) (by omega) (by unfold num; rw [h])
theorem sealT_list (t : ByteArray) : (sealT t).data.toList = t.data.toList ++ 35 :: itoa (ck t.data.toList) := by
  unfold sealT num
  simp
/-- A list that is sealed. -/
def Sealed (Y : List UInt8) : Prop := ∃ X, (35 : UInt8) ∉ X ∧ Y = X ++ 35 :: itoa (ck X)
theorem verOk_sealed {s : ByteArray} (h : VerOk s) : Sealed s.data.toList := by
  refine ⟨ahead s.data.toList, ahead_not _, ?_⟩
  have e := congrArg (fun b : ByteArray => b.data.toList) h.2
  have e2 := sealT_list (aheadT s)
  have e3 : (aheadT s).data.toList = ahead s.data.toList := by unfold aheadT; simp
  rw [e3] at e2
  exact e.symm.trans e2

/-- A byte of a sealed list is changed: it is not sealed any more. -/
theorem changed (X : List UInt8) (hX : (35 : UInt8) ∉ X) (P S : List UInt8) (c d : UInt8) (hY : X ++ 35 :: itoa (ck X) = P ++ c :: S) (hcd : c ≠ d) : ¬ Sealed (P ++ d :: S) := by
  rintro ⟨Z, hZ, hE⟩
  rcases List.append_eq_append_iff.1 hY with ⟨Q, hP, hQ⟩ | ⟨Q, hP, hQ⟩
  · -- P = X ++ Q: the change lies at or behind the mark
    cases Q with
    | nil =>
      simp at hQ
      obtain ⟨rfl, rfl⟩ := hQ
      rw [List.append_nil] at hP
      subst hP
      -- the mark itself
      have h1 : (35 : UInt8) ∉ P ++ d :: itoa (ck P) := by
        intro hm
        rcases List.mem_append.1 hm with hm | hm
        · exact hX hm
        · rcases List.mem_cons.1 hm with hm | hm
          · exact hcd hm
          · exact itoa_noMark P hm
      exact h1 (by rw [hE]; simp)
    | cons q Q =>
      injection hQ with hq hQ
      subst hq
      subst hP
      have hE2 : X ++ 35 :: (Q ++ d :: S) = Z ++ 35 :: itoa (ck Z) := by rw [← hE]; simp
      obtain ⟨rfl, e2⟩ := mark_parts _ _ _ _ hX hZ hE2
      rw [hQ] at e2
      have e3 := List.append_cancel_left e2
      injection e3 with e3 _
      exact hcd e3.symm
  · -- X = P ++ Q: the change lies ahead of the mark
    cases Q with
    | nil =>
      simp at hQ
      obtain ⟨hc, hS⟩ := hQ
      rw [List.append_nil] at hP
      subst hP
      have h1 : (35 : UInt8) ∉ X ++ d :: S := by
        intro hm
        rcases List.mem_append.1 hm with hm | hm
        · exact hX hm
        · rcases List.mem_cons.1 hm with hm | hm
          · exact hcd (by rw [hc, hm])
          · rw [hS] at hm; exact itoa_noMark X hm
      exact h1 (by rw [hE]; simp)
    | cons q Q =>
      injection hQ with hq hQ
      subst hq
      subst hP
      by_cases hd : d = 35
      · subst hd
        have hPn : (35 : UInt8) ∉ P := fun hm => hX (List.mem_append_left _ hm)
        obtain ⟨rfl, e2⟩ := mark_parts _ _ _ _ hPn hZ hE
        have := itoa_noMark P
        rw [← e2, hQ] at this
        exact this (by simp)
      · have hn : (35 : UInt8) ∉ P ++ d :: Q := by
          intro hm
          rcases List.mem_append.1 hm with hm | hm
          · exact hX (List.mem_append_left _ hm)
          · rcases List.mem_cons.1 hm with hm | hm
            · exact hd hm.symm
            · exact hX (List.mem_append_right _ (List.mem_cons_of_mem _ hm))
        have hE2 : (P ++ d :: Q) ++ 35 :: itoa (ck (P ++ c :: Q)) = Z ++ 35 :: itoa (ck Z) := by rw [← hE, hQ]; simp
        obtain ⟨rfl, e2⟩ := mark_parts _ _ _ _ hn hZ hE2
        exact ck_set P Q c d hcd (itoa_ck_inj _ _ e2)
/-- .. told of a text and a place. -/
theorem not_ver_set (x : ByteArray) (hx : (35 : UInt8) ∉ x.data.toList) (k : Nat) (d : UInt8) (s : ByteArray) (hk : k < (sealT x).data.toList.length) (hd : (sealT x).data.toList[k] ≠ d) (hs : s.data.toList = (sealT x).data.toList.set k d) : ¬ VerOk s := by
  intro h
  have h1 := verOk_sealed h
  rw [hs] at h1
  have e1 : (sealT x).data.toList = (sealT x).data.toList.take k ++ (sealT x).data.toList[k] :: (sealT x).data.toList.drop (k + 1) := by
    rw [List.getElem_cons_drop, List.take_append_drop]
  have e2 : (sealT x).data.toList.set k d = (sealT x).data.toList.take k ++ d :: (sealT x).data.toList.drop (k + 1) := by
    rw [List.set_eq_take_append_cons_drop, if_pos hk]
  rw [e2] at h1
  have e3 := sealT_list x
  exact changed x.data.toList hx _ _ _ d (e3.symm.trans e1) hd h1
theorem ver_seal (x : ByteArray) (h : AppOk x) : VerOk (sealT x) ∧ aheadT (sealT x) = x := by
  have e : aheadT (sealT x) = x := by
    unfold aheadT ahead
    rw [sealT_list, List.takeWhile_append_of_pos]
    · simp
    · intro c hc
      simp
      intro e
      exact h.2.1 (by rw [← e]; exact hc)
  exact ⟨⟨h.2.2, by rw [e]⟩, e⟩
end Go.Proofs.YtdbkciffdfdfbaaDoor.Plain
