/-
  Plain facts on the tiles that can come out of a list by mergers: as the program lists them, and as the reference puts them in order. No program stands in this text.
-/
import Derived.Test.YtblcojacmjbjcaaRulePlain
namespace Go.Proofs.Ytblcojacmjbjcaa.Plain
set_option linter.unusedVariables false
set_option linter.unusedSimpArgs false
/-- What can come out of a list in n mergers at most, one behind the other. -/
def Rch (m : Int → Int → Int) : Nat → List Int → Int → Prop
  | 0, L, x => x ∈ L
  | n + 1, L, x => x ∈ L ∨ ∃ a b R, List.Perm L (a :: b :: R) ∧ 0 < m a b ∧ Rch m n (m a b :: R) x
theorem Rch_succ (m : Int → Int → Int) (n : Nat) (L : List Int) (x : Int) : Rch m (n + 1) L x ↔ (x ∈ L ∨ ∃ a b R, List.Perm L (a :: b :: R) ∧ 0 < m a b ∧ Rch m n (m a b :: R) x) := Iff.rfl
theorem Rch.perm {m : Int → Int → Int} : ∀ (n : Nat) {L K : List Int} (h : List.Perm L K) (x : Int), Rch m n L x ↔ Rch m n K x
  | 0, _, _, h, _ => h.mem_iff
  | n + 1, L, K, h, x => by
    unfold Rch
    rw [h.mem_iff]
    constructor
    · rintro (q | ⟨a, b, R, q, r⟩)
      · exact .inl q
      · exact .inr ⟨a, b, R, h.symm.trans q, r⟩
    · rintro (q | ⟨a, b, R, q, r⟩)
      · exact .inl q
      · exact .inr ⟨a, b, R, h.trans q, r⟩
/-- The list without its number i, and another one in the place j. -/
def lefL (L : List Int) (i j : Nat) (v : Int) : List Int := (L.eraseIdx i).set j v
theorem perm_at : ∀ (L : List Int) (i : Nat), i < L.length → List.Perm L (L.getD i 0 :: L.eraseIdx i)
  | [], i, h => absurd h (by simp)
  | x :: L, 0, _ => List.Perm.refl _
  | x :: L, i + 1, h => by
    have ih := perm_at L i (by simpa using h)
    exact (ih.cons x).trans (List.Perm.swap _ _ _)
theorem perm_set : ∀ (M : List Int) (k : Nat) (v : Int), k < M.length → List.Perm (M.set k v) (v :: M.eraseIdx k)
  | [], k, _, h => absurd h (by simp)
  | x :: M, 0, v, _ => List.Perm.refl _
  | x :: M, k + 1, v, h => by
    have ih := perm_set M k v (by simpa using h)
    exact (ih.cons x).trans (List.Perm.swap _ _ _)
theorem getD_erase_lt : ∀ (L : List Int) (i k : Nat), k < i → (L.eraseIdx i).getD k 0 = L.getD k 0
  | [], i, k, _ => by simp
  | x :: L, 0, k, h => absurd h (by omega)
  | x :: L, i + 1, 0, _ => rfl
  | x :: L, i + 1, k + 1, h => by
    show (L.eraseIdx i).getD k 0 = L.getD k 0
    exact getD_erase_lt L i k (by omega)
theorem getD_erase_ge : ∀ (L : List Int) (p q : Nat), p ≤ q → (L.eraseIdx p).getD q 0 = L.getD (q + 1) 0
  | [], p, q, _ => by simp
  | x :: L, 0, q, _ => rfl
  | x :: L, p + 1, 0, h => absurd h (by omega)
  | x :: L, p + 1, q + 1, h => by
    show (L.eraseIdx p).getD q 0 = L.getD (q + 1) 0
    exact getD_erase_ge L p q (by omega)
theorem erase_comm : ∀ (L : List Int) (p q : Nat), p ≤ q → (L.eraseIdx (q + 1)).eraseIdx p = (L.eraseIdx p).eraseIdx q
  | [], p, q, _ => by simp
  | x :: L, 0, q, _ => rfl
  | x :: L, p + 1, 0, h => absurd h (by omega)
  | x :: L, p + 1, q + 1, h => by
    show x :: (L.eraseIdx (q + 1)).eraseIdx p = x :: (L.eraseIdx p).eraseIdx q
    rw [erase_comm L p q (by omega)]
theorem len_erase : ∀ (L : List Int) (i : Nat), i < L.length → (L.eraseIdx i).length + 1 = L.length
  | [], i, h => absurd h (by simp)
  | x :: L, 0, _ => rfl
  | x :: L, i + 1, h => by
    have ih := len_erase L i (by simpa using h)
    show (L.eraseIdx i).length + 1 + 1 = L.length + 1
    omega
theorem len_lef {L : List Int} {i j : Nat} (v : Int) (h : i < L.length) : (lefL L i j v).length + 1 = L.length := by
  unfold lefL; rw [List.length_set]; exact len_erase L i h
theorem lef_perm {L : List Int} {i k : Nat} (hk : k < i) (hi : i < L.length) (v : Int) : ∃ R, List.Perm L (L.getD i 0 :: L.getD k 0 :: R) ∧ List.Perm (lefL L i k v) (v :: R) := by
  have h1 := perm_at L i hi
  have hl := len_erase L i hi
  have h2 := perm_at (L.eraseIdx i) k (by omega)
  rw [getD_erase_lt L i k hk] at h2
  exact ⟨_, h1.trans (h2.cons _), perm_set _ k v (by omega)⟩
theorem mem_at {L : List Int} {x : Int} (h : x ∈ L) : ∃ i, i < L.length ∧ L.getD i 0 = x := by
  obtain ⟨i, hi, he⟩ := List.getElem_of_mem h
  exact ⟨i, hi, by rw [List.getD_eq_getElem?_getD, List.getElem?_eq_getElem hi]; exact he⟩
theorem perm_tail {a : Int} {L K : List Int} (h : List.Perm (a :: L) (a :: K)) : List.Perm L K := List.Perm.cons_inv h
theorem perm_two {L R : List Int} {a b : Int} (h : List.Perm L (a :: b :: R)) : ∃ i k, k < i ∧ i < L.length ∧ ((L.getD i 0 = a ∧ L.getD k 0 = b) ∨ (L.getD i 0 = b ∧ L.getD k 0 = a)) ∧
    ∀ v, List.Perm (lefL L i k v) (v :: R) := by
  obtain ⟨p, hp, ep⟩ := mem_at (h.symm.mem_iff.1 (List.mem_cons_self (a := a) (l := b :: R)))
  have hl := len_erase L p hp
  have h1 : List.Perm (L.eraseIdx p) (b :: R) := perm_tail (a := a) (by have := perm_at L p hp; rw [ep] at this; exact this.symm.trans h)
  obtain ⟨q, hq, eq⟩ := mem_at (h1.symm.mem_iff.1 (List.mem_cons_self (a := b) (l := R)))
  have hl2 := len_erase (L.eraseIdx p) q hq
  have h2 : List.Perm ((L.eraseIdx p).eraseIdx q) R := perm_tail (a := b) (by have := perm_at (L.eraseIdx p) q hq; rw [eq] at this; exact this.symm.trans h1)
  by_cases hqp : q < p
  · rw [getD_erase_lt L p q hqp] at eq
    exact ⟨p, q, hqp, hp, .inl ⟨ep, eq⟩, fun v => (perm_set _ q v hq).trans (h2.cons v)⟩
  · rw [getD_erase_ge L p q (by omega)] at eq
    have hl3 := len_erase L (q + 1) (by omega)
    refine ⟨q + 1, p, by omega, by omega, .inr ⟨eq, ep⟩, fun v => ?_⟩
    have := perm_set (L.eraseIdx (q + 1)) p v (by omega)
    rw [erase_comm L p q (by omega)] at this
    exact this.trans (h2.cons v)
/-- What the program lists: the list, and behind it what comes out of it when the numbers i and j merge, for all j before i. -/
def rfI (m : Int → Int → Int) (rec : List Int → List Int) (L : List Int) (i : Nat) : Nat → List Int
  | 0 => []
  | j + 1 => rfI m rec L i j ++ (if 0 < m (L.getD i 0) (L.getD j 0) then rec (lefL L i j (m (L.getD i 0) (L.getD j 0))) else [])
def rfO (m : Int → Int → Int) (rec : List Int → List Int) (L : List Int) : Nat → List Int
  | 0 => []
  | i + 1 => rfO m rec L i ++ rfI m rec L i i
def rfL (m : Int → Int → Int) : Nat → List Int → List Int
  | 0, L => L
  | n + 1, L => L ++ rfO m (rfL m n) L L.length
theorem mem_rfI (m : Int → Int → Int) (rec : List Int → List Int) (L : List Int) (i : Nat) (x : Int) : ∀ j, x ∈ rfI m rec L i j ↔ ∃ k, k < j ∧ 0 < m (L.getD i 0) (L.getD k 0) ∧ x ∈ rec (lefL L i k (m (L.getD i 0) (L.getD k 0)))
  | 0 => by simp [rfI]
  | j + 1 => by
    unfold rfI
    rw [List.mem_append, mem_rfI m rec L i x j]
    constructor
    · rintro (⟨k, h1, h2⟩ | h)
      · exact ⟨k, by omega, h2⟩
      · split at h
        · rename_i hc; exact ⟨j, by omega, hc, h⟩
        · cases h
    · rintro ⟨k, h1, h2, h3⟩
      by_cases e : k = j
      · subst e; right; rw [if_pos h2]; exact h3
      · exact .inl ⟨k, by omega, h2, h3⟩
theorem mem_rfO (m : Int → Int → Int) (rec : List Int → List Int) (L : List Int) (x : Int) : ∀ n, x ∈ rfO m rec L n ↔ ∃ i k, k < i ∧ i < n ∧ 0 < m (L.getD i 0) (L.getD k 0) ∧ x ∈ rec (lefL L i k (m (L.getD i 0) (L.getD k 0)))
  | 0 => by simp [rfO]
  | n + 1 => by
    unfold rfO
    rw [List.mem_append, mem_rfO m rec L x n, mem_rfI]
    constructor
    · rintro (⟨i, k, h1, h2, h3⟩ | ⟨k, h1, h2⟩)
      · exact ⟨i, k, h1, by omega, h3⟩
      · exact ⟨n, k, h1, by omega, h2⟩
    · rintro ⟨i, k, h1, h2, h3⟩
      by_cases e : i = n
      · subst e; exact .inr ⟨k, h1, h3⟩
      · exact .inl ⟨i, k, h1, by omega, h3⟩
theorem mem_rfL {m : Int → Int → Int} (hc : ∀ s t, m s t = m t s) (x : Int) : ∀ (n : Nat) (L : List Int), x ∈ rfL m n L ↔ Rch m n L x
  | 0, _ => Iff.rfl
  | n + 1, L => by
    unfold rfL Rch
    rw [List.mem_append, mem_rfO]
    constructor
    · rintro (h | ⟨i, k, h1, h2, h3, h4⟩)
      · exact .inl h
      · obtain ⟨R, p1, p2⟩ := lef_perm h1 h2 (m (L.getD i 0) (L.getD k 0))
        exact .inr ⟨_, _, R, p1, h3, (Rch.perm n p2 x).1 ((mem_rfL hc x n _).1 h4)⟩
    · rintro (h | ⟨a, b, R, p1, h3, h4⟩)
      · exact .inl h
      · obtain ⟨i, k, h1, h2, h5, h6⟩ := perm_two p1
        right
        have e : m (L.getD i 0) (L.getD k 0) = m a b := by
          rcases h5 with ⟨q1, q2⟩ | ⟨q1, q2⟩
          · rw [q1, q2]
          · rw [q1, q2, hc]
        exact ⟨i, k, h1, h2, by rw [e]; exact h3, by rw [e]; exact (mem_rfL hc x n _).2 ((Rch.perm n (h6 _) x).2 h4)⟩
/-- How many numbers the program lists at most. -/
def rfB : Nat → Nat
  | 0 => 0
  | n + 1 => (n + 1) + (n + 1) * (n + 1) * rfB n
theorem rfI_le {m : Int → Int → Int} {rec : List Int → List Int} {L : List Int} {i B : Nat} (h : ∀ k v, (rec (lefL L i k v)).length ≤ B) : ∀ j, (rfI m rec L i j).length ≤ j * B
  | 0 => by simp [rfI]
  | j + 1 => by
    have ih := rfI_le (m := m) h j
    have := h j (m (L.getD i 0) (L.getD j 0))
    unfold rfI
    rw [List.length_append, Nat.succ_mul]
    split
    · omega
    · simp; omega
theorem rfO_le {m : Int → Int → Int} {rec : List Int → List Int} {L : List Int} {B : Nat} (h : ∀ i k v, i < L.length → (rec (lefL L i k v)).length ≤ B) : ∀ n, n ≤ L.length → (rfO m rec L n).length ≤ n * (L.length * B)
  | 0, _ => by simp [rfO]
  | n + 1, hn => by
    have ih := rfO_le (m := m) h n (by omega)
    have h2 := rfI_le (m := m) (i := n) (fun k v => h n k v (by omega)) n
    have h3 : n * B ≤ L.length * B := Nat.mul_le_mul (by omega) (Nat.le_refl _)
    unfold rfO
    rw [List.length_append, Nat.succ_mul]
    omega
theorem rfL_le (m : Int → Int → Int) : ∀ (n : Nat) (L : List Int), L.length ≤ n → (rfL m n L).length ≤ rfB n
  | 0, L, h => by unfold rfL rfB; omega
  | n + 1, L, h => by
    have h1 := rfO_le (m := m) (rec := rfL m n) (L := L) (B := rfB n) (fun i k v hi => rfL_le m n _ (by have := len_lef (j := k) v hi; omega)) L.length (Nat.le_refl _)
    have h2 : L.length * (L.length * rfB n) ≤ (n + 1) * (n + 1) * rfB n := by
      rw [← Nat.mul_assoc]
      exact Nat.mul_le_mul (Nat.mul_le_mul h h) (Nat.le_refl _)
    unfold rfL rfB
    rw [List.length_append]
    omega
theorem rfL_tile {m : Int → Int → Int} (hm : MgFn m) : ∀ (n : Nat) (L : List Int), (∀ x ∈ L, TlOk x) → ∀ x, Rch m n L x → TlOk x
  | 0, L, h, x, hx => h x hx
  | n + 1, L, h, x, hx => by
    rcases hx with hx | ⟨a, b, R, p, q, r⟩
    · exact h x hx
    · refine rfL_tile hm n _ (fun y hy => ?_) x r
      have ha := h a (p.symm.mem_iff.1 (by simp))
      have hb := h b (p.symm.mem_iff.1 (by simp))
      rcases List.mem_cons.1 hy with rfl | hy
      · have := hm a b ha hb; unfold TlOk; omega
      · exact h y (p.symm.mem_iff.1 (by simp [hy]))
/-- What the reference does: it puts each number into an ordered list. -/
def putA (n : Int) : List Int → List Int
  | [] => [n]
  | x :: L => if x < n then x :: putA n L else if x = n then x :: L else n :: x :: L
theorem mem_putA (n x : Int) : ∀ L, x ∈ putA n L ↔ x = n ∨ x ∈ L
  | [] => by simp [putA]
  | y :: L => by
    unfold putA
    split
    · rw [List.mem_cons, mem_putA n x L, List.mem_cons]
      constructor
      · rintro (h | h | h) <;> simp [h]
      · rintro (h | h | h) <;> simp [h]
    · split
      · rename_i h1 h2
        constructor
        · intro h; exact .inr h
        · rintro (h | h)
          · rw [h, ← h2]; simp
          · exact h
      · simp
def Asc (L : List Int) : Prop := L.Pairwise (· < ·)
theorem asc_putA (n : Int) : ∀ L, Asc L → Asc (putA n L)
  | [], _ => by simp [putA, Asc]
  | y :: L, h => by
    unfold Asc at h
    rw [List.pairwise_cons] at h
    unfold putA
    split
    · rename_i h1
      unfold Asc
      rw [List.pairwise_cons]
      refine ⟨fun z hz => ?_, asc_putA n L h.2⟩
      rcases (mem_putA n z L).1 hz with rfl | hz
      · exact h1
      · exact h.1 z hz
    · split
      · unfold Asc; rw [List.pairwise_cons]; exact h
      · unfold Asc
        rw [List.pairwise_cons]
        refine ⟨fun z hz => ?_, by rw [List.pairwise_cons]; exact h⟩
        rcases List.mem_cons.1 hz with rfl | hz
        · omega
        · have := h.1 z hz; omega
/-- Ordered lists without repetition that have the same numbers are the same. -/
theorem asc_eq : ∀ (L K : List Int), Asc L → Asc K → (∀ x, x ∈ L ↔ x ∈ K) → L = K
  | [], [], _, _, _ => rfl
  | [], y :: K, _, _, h => absurd ((h y).2 (by simp)) (by simp)
  | x :: L, [], _, _, h => absurd ((h x).1 (by simp)) (by simp)
  | x :: L, y :: K, hL, hK, h => by
    unfold Asc at hL hK
    rw [List.pairwise_cons] at hL hK
    have e : x = y := by
      rcases List.mem_cons.1 ((h x).1 (by simp)) with q | q
      · exact q
      · rcases List.mem_cons.1 ((h y).2 (by simp)) with r | r
        · exact r.symm
        · have a := hK.1 x q; have b := hL.1 y r; omega
    subst e
    congr 1
    refine asc_eq L K hL.2 hK.2 fun z => ?_
    constructor
    · intro hz
      rcases List.mem_cons.1 ((h z).1 (by simp [hz])) with q | q
      · have := hL.1 z hz; omega
      · exact q
    · intro hz
      rcases List.mem_cons.1 ((h z).2 (by simp [hz])) with q | q
      · have := hK.1 z hz; omega
      · exact q
/-- The rest behind a merger, in the reference: what has come out, and then all others. -/
def othL (L : List Int) (i k : Nat) : Nat → List Int
  | 0 => []
  | n + 1 => if n ≠ i ∧ n ≠ k then othL L i k n ++ [L.getD n 0] else othL L i k n
def rsI (m : Int → Int → Int) (rec : List Int → List Int → List Int) (L : List Int) (i : Nat) (out : List Int) : Nat → List Int
  | 0 => putA (L.getD i 0) out
  | k + 1 => if m (L.getD k 0) (L.getD i 0) = 0 then rsI m rec L i out k else rec (m (L.getD k 0) (L.getD i 0) :: othL L i k L.length) (rsI m rec L i out k)
def rsO (m : Int → Int → Int) (rec : List Int → List Int → List Int) (L : List Int) (out : List Int) : Nat → List Int
  | 0 => out
  | i + 1 => rsI m rec L i (rsO m rec L out i) i
def rsL (m : Int → Int → Int) : Nat → List Int → List Int → List Int
  | 0, _, out => out
  | n + 1, L, out => rsO m (rsL m n) L out L.length
theorem oth_perm {L : List Int} {i k : Nat} (hk : k < i) : ∀ n, n ≤ L.length → ∃ P, L.take n = P ∧ (n ≤ k → List.Perm P (othL L i k n)) ∧ (k < n → n ≤ i → List.Perm P (L.getD k 0 :: othL L i k n)) ∧ (i < n → List.Perm P (L.getD i 0 :: L.getD k 0 :: othL L i k n))
  | 0, _ => ⟨[], by simp, fun _ => List.Perm.refl _, fun h _ => absurd h (by omega), fun h => absurd h (by omega)⟩
  | n + 1, hn => by
    obtain ⟨P, e, h1, h2, h3⟩ := oth_perm (L := L) hk n (by omega)
    have eP : L.take (n + 1) = P ++ [L.getD n 0] := by
      have hn2 : n < L.length := by omega
      rw [List.take_add_one, e, List.getD_eq_getElem?_getD, List.getElem?_eq_getElem hn2]
      rfl
    refine ⟨_, eP, fun h => ?_, fun h h' => ?_, fun h => ?_⟩
    · unfold othL; rw [if_pos (by omega)]; exact (h1 (by omega)).append_right _
    · by_cases ek : n = k
      · subst ek
        unfold othL; rw [if_neg (by omega)]
        exact ((h1 (Nat.le_refl _)).append_right _).trans (List.perm_append_comm)
      · unfold othL; rw [if_pos (by omega)]
        exact (h2 (by omega) (by omega)).append_right _
    · by_cases ei : n = i
      · subst ei
        unfold othL; rw [if_neg (by omega)]
        exact ((h2 hk (Nat.le_refl _)).append_right _).trans (List.perm_append_comm)
      · unfold othL; rw [if_pos (by omega)]
        exact (h3 (by omega)).append_right _
theorem oth_all {L : List Int} {i k : Nat} (hk : k < i) (hi : i < L.length) : List.Perm L (L.getD i 0 :: L.getD k 0 :: othL L i k L.length) := by
  obtain ⟨P, e, _, _, h3⟩ := oth_perm hk L.length (Nat.le_refl _)
  rw [List.take_length] at e
  subst e
  exact h3 hi
theorem oth_len {L : List Int} {i k : Nat} (hk : k < i) (hi : i < L.length) : (othL L i k L.length).length + 2 = L.length := by
  have := (oth_all hk hi).length_eq
  simp at this; omega
theorem rsL_spec {m : Int → Int → Int} (hc : ∀ s t, m s t = m t s) (hm : MgFn m) : ∀ (n : Nat) (L : List Int), L.length ≤ n → (∀ x ∈ L, TlOk x) → ∀ out, Asc out → Asc (rsL m n L out) ∧ ∀ x, x ∈ rsL m n L out ↔ x ∈ out ∨ Rch m n L x
  | 0, L, hl, _, out, ho => ⟨ho, fun x => by
      have : L = [] := List.eq_nil_of_length_eq_zero (by omega)
      subst this; simp [rsL, Rch]⟩
  | n + 1, L, hl, hT, out, ho => by
    have IH := rsL_spec hc hm n
    have hTat : ∀ i, i < L.length → TlOk (L.getD i 0) := fun i hi => hT _ (by rw [List.getD_eq_getElem?_getD, List.getElem?_eq_getElem hi]; exact List.getElem_mem hi)
    have inner : ∀ i, i < L.length → ∀ o, Asc o → ∀ k, k ≤ i → Asc (rsI m (rsL m n) L i o k) ∧ ∀ x, x ∈ rsI m (rsL m n) L i o k ↔ x ∈ o ∨ x = L.getD i 0 ∨ ∃ j, j < k ∧ 0 < m (L.getD j 0) (L.getD i 0) ∧ Rch m n (m (L.getD j 0) (L.getD i 0) :: othL L i j L.length) x := by
      intro i hi o ho k
      induction k with
      | zero =>
        intro _
        refine ⟨asc_putA _ _ ho, fun x => ?_⟩
        show x ∈ putA _ o ↔ _
        rw [mem_putA]
        constructor
        · rintro (h | h)
          · exact .inr (.inl h)
          · exact .inl h
        · rintro (h | h | ⟨j, h, _⟩)
          · exact .inr h
          · exact .inl h
          · omega
      | succ k ih =>
        intro hk
        obtain ⟨a1, a2⟩ := ih (by omega)
        have hb := hm _ _ (hTat k (by omega)) (hTat i hi)
        unfold rsI
        by_cases h0 : m (L.getD k 0) (L.getD i 0) = 0
        · rw [if_pos h0]
          refine ⟨a1, fun x => ?_⟩
          rw [a2]
          constructor
          · rintro (h | h | ⟨j, h1, h2⟩)
            · exact .inl h
            · exact .inr (.inl h)
            · exact .inr (.inr ⟨j, by omega, h2⟩)
          · rintro (h | h | ⟨j, h1, h2, h3⟩)
            · exact .inl h
            · exact .inr (.inl h)
            · by_cases e : j = k
              · subst e; omega
              · exact .inr (.inr ⟨j, by omega, h2, h3⟩)
        · rw [if_neg h0]
          have hp := oth_all (show k < i by omega) hi
          have hlen := oth_len (show k < i by omega) hi
          have hT2 : ∀ y ∈ m (L.getD k 0) (L.getD i 0) :: othL L i k L.length, TlOk y := fun y hy => by
            rcases List.mem_cons.1 hy with rfl | hy
            · unfold TlOk; omega
            · exact hT y (hp.symm.mem_iff.1 (by simp [hy]))
          obtain ⟨b1, b2⟩ := IH (m (L.getD k 0) (L.getD i 0) :: othL L i k L.length) (by simp; omega) hT2 _ a1
          refine ⟨b1, fun x => ?_⟩
          rw [b2, a2]
          constructor
          · rintro ((h | h | ⟨j, h1, h2⟩) | h)
            · exact .inl h
            · exact .inr (.inl h)
            · exact .inr (.inr ⟨j, by omega, h2⟩)
            · exact .inr (.inr ⟨k, by omega, by omega, h⟩)
          · rintro (h | h | ⟨j, h1, h2, h3⟩)
            · exact .inl (.inl h)
            · exact .inl (.inr (.inl h))
            · by_cases e : j = k
              · subst e; exact .inr h3
              · exact .inl (.inr (.inr ⟨j, by omega, h2, h3⟩))
    have outer : ∀ i, i ≤ L.length → Asc (rsO m (rsL m n) L out i) ∧ ∀ x, x ∈ rsO m (rsL m n) L out i ↔ x ∈ out ∨ (∃ j, j < i ∧ x = L.getD j 0) ∨ ∃ p j, j < p ∧ p < i ∧ 0 < m (L.getD j 0) (L.getD p 0) ∧ Rch m n (m (L.getD j 0) (L.getD p 0) :: othL L p j L.length) x := by
      intro i
      induction i with
      | zero =>
        intro _
        refine ⟨ho, fun x => ⟨fun h => .inl h, ?_⟩⟩
        rintro (h | ⟨j, h, _⟩ | ⟨p, j, _, h, _⟩)
        · exact h
        · omega
        · omega
      | succ i ih =>
        intro hi
        obtain ⟨a1, a2⟩ := ih (by omega)
        obtain ⟨b1, b2⟩ := inner i (by omega) _ a1 i (Nat.le_refl _)
        refine ⟨b1, fun x => ?_⟩
        show x ∈ rsI m (rsL m n) L i (rsO m (rsL m n) L out i) i ↔ _
        rw [b2, a2]
        constructor
        · rintro ((h | ⟨j, h1, h2⟩ | ⟨p, j, h1, h2, h3⟩) | h | ⟨j, h1, h2⟩)
          · exact .inl h
          · exact .inr (.inl ⟨j, by omega, h2⟩)
          · exact .inr (.inr ⟨p, j, h1, by omega, h3⟩)
          · exact .inr (.inl ⟨i, by omega, h⟩)
          · exact .inr (.inr ⟨i, j, h1, by omega, h2⟩)
        · rintro (h | ⟨j, h1, h2⟩ | ⟨p, j, h1, h2, h3⟩)
          · exact .inl (.inl h)
          · by_cases e : j = i
            · subst e; exact .inr (.inl h2)
            · exact .inl (.inr (.inl ⟨j, by omega, h2⟩))
          · by_cases e : p = i
            · subst e; exact .inr (.inr ⟨j, h1, h3⟩)
            · exact .inl (.inr (.inr ⟨p, j, h1, by omega, h3⟩))
    obtain ⟨c1, c2⟩ := outer L.length (Nat.le_refl _)
    refine ⟨c1, fun x => ?_⟩
    show x ∈ rsO m (rsL m n) L out L.length ↔ _
    rw [c2, Rch_succ]
    constructor
    · rintro (h | ⟨j, h1, h2⟩ | ⟨p, j, h1, h2, h3, h4⟩)
      · exact .inl h
      · right; left; rw [h2, List.getD_eq_getElem?_getD, List.getElem?_eq_getElem h1]; exact List.getElem_mem h1
      · right; right
        refine ⟨L.getD p 0, L.getD j 0, _, oth_all h1 h2, by rw [hc]; exact h3, ?_⟩
        rw [hc]; exact h4
    · rintro (h | h | ⟨a, b, R, p1, h3, h4⟩)
      · exact .inl h
      · obtain ⟨j, h1, h2⟩ := mem_at h
        exact .inr (.inl ⟨j, h1, h2.symm⟩)
      · obtain ⟨p, j, h1, h2, h5, _⟩ := perm_two p1
        have hq := oth_all h1 h2
        have e : m (L.getD j 0) (L.getD p 0) = m a b ∧ List.Perm R (othL L p j L.length) := by
          rcases h5 with ⟨q1, q2⟩ | ⟨q1, q2⟩
          · rw [q1, q2] at hq ⊢
            exact ⟨hc _ _, perm_tail (perm_tail (p1.symm.trans hq))⟩
          · rw [q1, q2] at hq ⊢
            exact ⟨rfl, perm_tail (perm_tail ((p1.symm.trans hq).trans (List.Perm.swap a b _)))⟩
        right; right
        refine ⟨p, j, h1, h2, by rw [e.1]; exact h3, ?_⟩
        rw [e.1]
        exact (Rch.perm n (e.2.cons _) x).1 h4
end Go.Proofs.Ytblcojacmjbjcaa.Plain
