/-
  Several texts in one:
  Plain facts on the potential of a board: what its tiles have scored, told cell by cell and number by number. No program stands in this text.
  Plain facts on the least list of tiles for a sum: greater ones first, as long as they fit. No program stands in this text.
  Plain facts on packed boards: the least list of tiles laid into the cells from the first one on, its sum, its tiles and its highest one; and boards whose tiles are all different. No program stands in this text.
  Plain facts on what the functions of chapter 7 about sums return. No program stands in this text.
-/
import Derived.Test.YtmcmpedmgibmkaaPlainA
namespace Go.Proofs.Ytmcmpedmgibmkaa.Plain
/-- What one number adds to the potential. -/
def potZ (t : Int) : Int := if 0 < t then (t - 1) * worth t else 0
theorem potW_bd {t : Int} (h0 : 1 ≤ t) (h1 : t ≤ 17) : 0 ≤ (t - 1) * worth t ∧ (t - 1) * worth t ≤ 4194304 := by
  have h2 := worth_bd (t := t) (by omega) (by omega)
  refine ⟨Int.mul_nonneg (by omega) (by omega), ?_⟩
  have := Int.mul_le_mul (a := t - 1) (b := worth t) (c := 16) (d := 262144) (by omega) h2.2 (by omega) (by omega)
  omega
theorem potZ_bd {t : Int} (h0 : 0 ≤ t) (h1 : t ≤ 17) : 0 ≤ potZ t ∧ potZ t ≤ 4194304 := by
  unfold potZ
  by_cases h : 0 < t
  · rw [if_pos h]; exact potW_bd (by omega) h1
  · rw [if_neg h]; omega
/-- The potential of the first k cells. -/
def potF (f : Nat → Int) : Nat → Int
  | 0 => 0
  | k + 1 => potF f k + potZ (f k)
theorem potF_bd {f : Nat → Int} (hf : Vd f) : ∀ k, k ≤ 16 → 0 ≤ potF f k ∧ potF f k ≤ k * 4194304
  | 0, _ => by simp [potF]
  | k + 1, h => by
    have h1 := potF_bd hf k (by omega)
    have h2 := hf k (by omega)
    have h3 := potZ_bd h2.1 h2.2
    unfold potF; omega
/-- The potential of so many tiles of the numbers 1 .. T. -/
def potG (c : Nat → Int) : Nat → Int
  | 0 => 0
  | T + 1 => potG c T + c (T + 1) * ((((T + 1 : Nat) : Int) - 1) * worth ((T + 1 : Nat) : Int))
theorem potG_zero : ∀ T, potG (fun _ => 0) T = 0
  | 0 => rfl
  | T + 1 => by unfold potG; rw [potG_zero T]; simp
theorem potT_step (f : Nat → Int) (k : Nat) : ∀ T : Nat, potG (cntF f (k + 1)) T = potG (cntF f k) T + (if 1 ≤ f k ∧ f k ≤ (T : Int) then (f k - 1) * worth (f k) else 0)
  | 0 => by
    unfold potG
    rw [if_neg (by omega)]; rfl
  | T + 1 => by
    show potG (cntF f (k + 1)) T + (cntF f k (T + 1) + (if f k = ((T + 1 : Nat) : Int) then 1 else 0)) * ((((T + 1 : Nat) : Int) - 1) * worth ((T + 1 : Nat) : Int)) = potG (cntF f k) T + cntF f k (T + 1) * ((((T + 1 : Nat) : Int) - 1) * worth ((T + 1 : Nat) : Int)) + _
    rw [potT_step f k T, Int.add_mul]
    by_cases e : f k = ((T + 1 : Nat) : Int)
    · rw [if_pos e, if_neg (by omega), if_pos (by omega), e, Int.one_mul]; omega
    · rw [if_neg e, Int.zero_mul]
      by_cases h : 1 ≤ f k ∧ f k ≤ (T : Int)
      · rw [if_pos h, if_pos (by omega)]; omega
      · rw [if_neg h, if_neg (by omega)]; omega
theorem potT_all {f : Nat → Int} (hf : Vd f) : ∀ k, k ≤ 16 → potG (cntF f k) 17 = potF f k
  | 0, _ => potG_zero 17
  | k + 1, h => by
    have h2 := hf k (by omega)
    rw [potT_step, potT_all hf k (by omega)]
    show _ = potF f k + potZ (f k)
    unfold potZ
    by_cases e : 0 < f k
    · rw [if_pos e, if_pos (by omega)]
    · rw [if_neg e, if_neg (by omega)]
theorem ptm_bd {c : Nat → Int} (hc : ∀ i, 0 ≤ c i ∧ c i ≤ 16) (T : Nat) (h0 : 1 ≤ T) (hT : T ≤ 17) : 0 ≤ c T * (((T : Int) - 1) * worth (T : Int)) ∧ c T * (((T : Int) - 1) * worth (T : Int)) ≤ 67108864 := by
  have h1 := hc T
  have h2 := potW_bd (t := (T : Int)) (by omega) (by omega)
  refine ⟨Int.mul_nonneg h1.1 h2.1, ?_⟩
  have := Int.mul_le_mul (a := c T) (b := ((T : Int) - 1) * worth (T : Int)) (c := 16) (d := 4194304) (by omega) h2.2 h2.1 (by omega)
  omega
theorem potG_bd {c : Nat → Int} (hc : ∀ i, 0 ≤ c i ∧ c i ≤ 16) : ∀ T, T ≤ 17 → 0 ≤ potG c T ∧ potG c T ≤ T * 67108864
  | 0, _ => by simp [potG]
  | T + 1, h => by
    have h1 := potG_bd hc T (by omega)
    have h2 := ptm_bd hc (T + 1) (by omega) h
    unfold potG; omega
theorem cntR_bd (f : Nat → Int) (i : Nat) : 0 ≤ cntR f i ∧ cntR f i ≤ 16 := by
  by_cases h : Vd f
  · rw [cntR_yes h]
    have := cntF_bd f 16 i
    omega
  · rw [cntR_no h]; simp
/-- What PotentialOf returns. -/
def potR (f : Nat → Int) : Int := if Vd f then potF f 16 else 0
theorem potR_yes {f : Nat → Int} (h : Vd f) : potR f = potF f 16 := by simp [potR, h]
theorem potR_no {f : Nat → Int} (h : ¬ Vd f) : potR f = 0 := by simp [potR, h]
theorem potR_cnt (f : Nat → Int) : potG (cntR f) 17 = potR f := by
  by_cases h : Vd f
  · rw [cntR_yes h, potR_yes h, potT_all h 16 (by omega)]
  · rw [cntR_no h, potR_no h, potG_zero]
theorem potR_bd (f : Nat → Int) : 0 ≤ potR f ∧ potR f ≤ 67108864 := by
  by_cases h : Vd f
  · rw [potR_yes h]
    have := potF_bd h 16 (by omega)
    omega
  · rw [potR_no h]; omega
end Go.Proofs.Ytmcmpedmgibmkaa.Plain
namespace Go.Proofs.Ytmcmpedmgibmkaa.Plain
/-- The tiles for a sum, of the numbers t .. 1, greater ones first. -/
def lsL : Nat → Nat → List Int
  | 0, _ => []
  | t + 1, s => List.replicate (s / 2 ^ (t + 1)) ((t + 1 : Nat) : Int) ++ lsL t (s % 2 ^ (t + 1))
theorem worth_nat (t : Nat) : worth (t : Int) = ((2 ^ t : Nat) : Int) := by
  unfold worth
  simp
/-- The number of the tiles, from the least bits on. -/
def lsB : Nat → Nat → Nat
  | 0, u => u
  | n + 1, u => u % 2 + lsB n (u / 2)
theorem mod_half (u p : Nat) : u % (2 * p) / 2 = u / 2 % p := by
  have h1 : u % (2 * p) = u % 2 + 2 * (u / 2 % p) := Nat.mod_mul
  omega
theorem lsB_top : ∀ n u, lsB (n + 1) u = u / 2 ^ (n + 1) + lsB n (u % 2 ^ (n + 1))
  | 0, u => by simp [lsB]; omega
  | n + 1, u => by
    show u % 2 + lsB (n + 1) (u / 2) = u / 2 ^ (n + 2) + (u % 2 ^ (n + 2) % 2 + lsB n (u % 2 ^ (n + 2) / 2))
    have e : 2 ^ (n + 2) = 2 * 2 ^ (n + 1) := by rw [Nat.pow_succ]; omega
    rw [lsB_top n (u / 2), e, mod_half, Nat.mod_mul_right_mod, Nat.div_div_eq_div_mul]
    omega
theorem lsL_len : ∀ n s, (lsL (n + 1) s).length = lsB n (s / 2)
  | 0, s => by simp [lsL, lsB]
  | n + 1, s => by
    have e : 2 ^ (n + 2) = 2 * 2 ^ (n + 1) := by rw [Nat.pow_succ]; omega
    show (List.replicate (s / 2 ^ (n + 2)) _ ++ lsL (n + 1) (s % 2 ^ (n + 2))).length = _
    rw [List.length_append, List.length_replicate, lsL_len n, lsB_top, e, mod_half, Nat.div_div_eq_div_mul]
theorem lsB_le : ∀ n u, lsB n u ≤ u
  | 0, _ => Nat.le_refl _
  | n + 1, u => by
    have := lsB_le n (u / 2)
    show u % 2 + lsB n (u / 2) ≤ u
    omega
/-- One tile more is at most one more in the least list. -/
theorem lsB_add : ∀ n a u, a ≤ n → lsB n (u + 2 ^ a) ≤ lsB n u + 1
  | 0, a, u, h => by
    obtain rfl : a = 0 := by omega
    exact Nat.le_refl _
  | n + 1, 0, u, _ => by
    show (u + 1) % 2 + lsB n ((u + 1) / 2) ≤ u % 2 + lsB n (u / 2) + 1
    have h := lsB_add n 0 (u / 2) (by omega)
    have h : lsB n (u / 2 + 1) ≤ lsB n (u / 2) + 1 := h
    rcases (by omega : u % 2 = 0 ∨ u % 2 = 1) with e | e
    · have : (u + 1) / 2 = u / 2 := by omega
      rw [this]; omega
    · have : (u + 1) / 2 = u / 2 + 1 := by omega
      rw [this]; omega
  | n + 1, a + 1, u, ha => by
    show (u + 2 ^ (a + 1)) % 2 + lsB n ((u + 2 ^ (a + 1)) / 2) ≤ u % 2 + lsB n (u / 2) + 1
    have e : 2 ^ (a + 1) = 2 * 2 ^ a := by rw [Nat.pow_succ]; omega
    have h := lsB_add n a (u / 2) (by omega)
    have h1 : (u + 2 ^ (a + 1)) % 2 = u % 2 := by omega
    have h2 : (u + 2 ^ (a + 1)) / 2 = u / 2 + 2 ^ a := by omega
    rw [h1, h2]; omega
/-- The number of tiles of the least list. -/
def lsN (s : Nat) : Nat := lsB 16 (s / 2)
theorem lsN_len (s : Nat) : (lsL 17 s).length = lsN s := lsL_len 16 s
theorem lsN_half (s : Nat) : lsN s ≤ s / 2 := lsB_le 16 _
theorem lsN_zero : lsN 0 = 0 := by decide
theorem lsN_add (s : Nat) (hs : s % 2 = 0) {t : Nat} (h1 : 1 ≤ t) (h2 : t ≤ 17) : lsN (s + 2 ^ t) ≤ lsN s + 1 := by
  unfold lsN
  obtain ⟨a, rfl⟩ : ∃ a, t = a + 1 := ⟨t - 1, by omega⟩
  have e : 2 ^ (a + 1) = 2 * 2 ^ a := by rw [Nat.pow_succ]; omega
  have : (s + 2 ^ (a + 1)) / 2 = s / 2 + 2 ^ a := by omega
  rw [this]
  exact lsB_add 16 a _ (by omega)
/-- The number of tiles of the first k cells. -/
def manF (f : Nat → Int) : Nat → Int
  | 0 => 0
  | k + 1 => manF f k + (if 0 < f k then 1 else 0)
theorem manF_bd (f : Nat → Int) : ∀ k, 0 ≤ manF f k ∧ manF f k ≤ k
  | 0 => by simp [manF]
  | k + 1 => by have := manF_bd f k; unfold manF; split <;> omega
theorem manF_cnt {f : Nat → Int} (hf : Vd f) : ∀ k, k ≤ 16 → manF f k = k - cntF f k 0
  | 0, _ => by simp [manF, cntF]
  | k + 1, h => by
    have h1 := manF_cnt hf k (by omega)
    have h2 := hf k (by omega)
    show manF f k + (if 0 < f k then 1 else 0) = ((k + 1 : Nat) : Int) - (cntF f k 0 + (if f k = ((0 : Nat) : Int) then 1 else 0))
    by_cases e : 0 < f k
    · rw [if_pos e, if_neg (by omega)]; omega
    · rw [if_neg e, if_pos (by omega)]; omega
/-- The sum of a board, a natural number; it is even, and its least list has no more tiles than the board. -/
theorem sum_least {f : Nat → Int} (hf : Vd f) : ∀ k, k ≤ 16 → (sumF f k).toNat % 2 = 0 ∧ 0 ≤ sumF f k ∧ (lsN (sumF f k).toNat : Int) ≤ manF f k
  | 0, _ => by simp [sumF, manF, lsN_zero]
  | k + 1, h => by
    obtain ⟨h1, h2, h3⟩ := sum_least hf k (by omega)
    have h4 := hf k (by omega)
    show (sumF f k + worthZ (f k)).toNat % 2 = 0 ∧ 0 ≤ sumF f k + worthZ (f k) ∧ (lsN (sumF f k + worthZ (f k)).toNat : Int) ≤ manF f k + (if 0 < f k then 1 else 0)
    unfold worthZ
    by_cases e : 0 < f k
    · rw [if_pos e, if_pos e]
      obtain ⟨t, ht⟩ : ∃ t : Nat, f k = (t : Int) := ⟨(f k).toNat, by omega⟩
      rw [ht, worth_nat]
      obtain ⟨a, rfl⟩ : ∃ a, t = a + 1 := ⟨t - 1, by omega⟩
      have e2 : 2 ^ (a + 1) = 2 * 2 ^ a := by rw [Nat.pow_succ]; omega
      have e3 : (sumF f k + ((2 ^ (a + 1) : Nat) : Int)).toNat = (sumF f k).toNat + 2 ^ (a + 1) := by omega
      have h5 := lsN_add _ h1 (t := a + 1) (by omega) (by omega)
      rw [e3]
      refine ⟨by omega, by omega, by omega⟩
    · rw [if_neg e, if_neg e, Int.add_zero, Int.add_zero]
      exact ⟨h1, h2, h3⟩
end Go.Proofs.Ytmcmpedmgibmkaa.Plain
namespace Go.Proofs.Ytmcmpedmgibmkaa.Plain
theorem lsL_take {t s : Nat} (h : 2 ^ (t + 1) ≤ s) : lsL (t + 1) s = ((t + 1 : Nat) : Int) :: lsL (t + 1) (s - 2 ^ (t + 1)) := by
  have hp : 0 < 2 ^ (t + 1) := Nat.two_pow_pos _
  unfold lsL
  rw [Nat.div_eq_sub_div hp h, List.replicate_succ, Nat.mod_eq_sub_mod h]
  rfl
theorem lsL_pass {t s : Nat} (h : s < 2 ^ (t + 1)) : lsL (t + 1) s = lsL t s := by
  rw [lsL, Nat.div_eq_of_lt h, Nat.mod_eq_of_lt h]
  rfl
theorem lsL_bd : ∀ t s x, x ∈ lsL t s → 1 ≤ x ∧ x ≤ (t : Int)
  | 0, _, x, h => by simp [lsL] at h
  | t + 1, s, x, h => by
    rcases List.mem_append.1 h with h | h
    · have := List.eq_of_mem_replicate h
      omega
    · have := lsL_bd t _ x h
      omega
theorem sum_app (g : Int → Int) (xs ys : List Int) : ((xs ++ ys).map g).sum = (xs.map g).sum + (ys.map g).sum := by
  rw [List.map_append, List.sum_append]
theorem sum_rep (g : Int → Int) (x : Int) : ∀ n : Nat, ((List.replicate n x).map g).sum = n * g x
  | 0 => by simp
  | n + 1 => by
    rw [List.replicate_succ, List.map_cons, List.sum_cons, sum_rep g x n]
    have : ((n + 1 : Nat) : Int) * g x = (n : Int) * g x + g x := by
      rw [show ((n + 1 : Nat) : Int) = (n : Int) + 1 by omega, Int.add_mul, Int.one_mul]
    omega
theorem lsL_sum : ∀ t s, ((lsL t s).map worthZ).sum = if t = 0 then 0 else (s : Int) - s % 2
  | 0, s => by simp [lsL]
  | t + 1, s => by
    rw [if_neg (by omega)]
    show ((List.replicate (s / 2 ^ (t + 1)) ((t + 1 : Nat) : Int) ++ lsL t (s % 2 ^ (t + 1))).map worthZ).sum = _
    rw [sum_app, sum_rep, lsL_sum t]
    have hw : worthZ ((t + 1 : Nat) : Int) = ((2 ^ (t + 1) : Nat) : Int) := by
      unfold worthZ
      rw [if_pos (by omega), worth_nat]
    have e2 : 2 ^ (t + 1) = 2 * 2 ^ t := by rw [Nat.pow_succ]; omega
    have e3 := Nat.div_add_mod s (2 ^ (t + 1))
    have e4 : s % 2 ^ (t + 1) % 2 = s % 2 := by rw [e2, Nat.mod_mul_right_mod]
    have e5 : ((s / 2 ^ (t + 1) : Nat) : Int) * ((2 ^ (t + 1) : Nat) : Int) = ((2 ^ (t + 1) * (s / 2 ^ (t + 1)) : Nat) : Int) := by
      rw [Int.natCast_mul, Int.mul_comm]
    rw [hw, e5]
    generalize 2 ^ (t + 1) * (s / 2 ^ (t + 1)) = Q at *
    by_cases ht : t = 0
    · subst ht
      rw [if_pos rfl]
      simp only [Nat.zero_add, Nat.pow_one] at *
      omega
    · rw [if_neg ht]
      omega
/-- The tiles of a list with one number. -/
def isV (v : Int) (x : Int) : Int := if x = v then 1 else 0
theorem lsL_high : ∀ (t s : Nat) (v : Int), (t : Int) < v → ((lsL t s).map (isV v)).sum = 0
  | 0, _, _, _ => rfl
  | t + 1, s, v, h => by
    show ((List.replicate (s / 2 ^ (t + 1)) ((t + 1 : Nat) : Int) ++ lsL t (s % 2 ^ (t + 1))).map (isV v)).sum = _
    rw [sum_app, sum_rep, lsL_high t _ v (by omega), show isV v ((t + 1 : Nat) : Int) = 0 from if_neg (by omega)]
    omega
theorem lsL_one : ∀ (t s : Nat) (v : Int), s < 2 ^ (t + 1) → ((lsL t s).map (isV v)).sum ≤ 1
  | 0, _, _, _ => by simp [lsL]
  | t + 1, s, v, h => by
    have e2 : 2 ^ (t + 2) = 2 * 2 ^ (t + 1) := by rw [Nat.pow_succ]; omega
    have hp : 0 < 2 ^ (t + 1) := Nat.two_pow_pos _
    have hq : s / 2 ^ (t + 1) < 2 := (Nat.div_lt_iff_lt_mul hp).2 (by omega)
    have hm : s % 2 ^ (t + 1) < 2 ^ (t + 1) := Nat.mod_lt _ hp
    show ((List.replicate (s / 2 ^ (t + 1)) ((t + 1 : Nat) : Int) ++ lsL t (s % 2 ^ (t + 1))).map (isV v)).sum ≤ 1
    rw [sum_app, sum_rep]
    by_cases e : v = ((t + 1 : Nat) : Int)
    · rw [lsL_high t _ v (by omega), show isV v ((t + 1 : Nat) : Int) = 1 from if_pos e.symm]
      omega
    · have := lsL_one t (s % 2 ^ (t + 1)) v hm
      rw [show isV v ((t + 1 : Nat) : Int) = 0 from if_neg (fun h => e h.symm)]
      omega
theorem lsL_some (s : Nat) (v : Int) (hv : v < 17) : ((lsL 17 s).map (isV v)).sum ≤ 1 := by
  show ((List.replicate (s / 2 ^ 17) ((17 : Nat) : Int) ++ lsL 16 (s % 2 ^ 17)).map (isV v)).sum ≤ 1
  rw [sum_app, sum_rep, show isV v ((17 : Nat) : Int) = 0 from if_neg (by omega)]
  have := lsL_one 16 (s % 2 ^ 17) v (Nat.mod_lt _ (by decide))
  omega
theorem getD_bd {L : List Int} {P : Int → Prop} (h : ∀ x, x ∈ L → P x) (h0 : P 0) (i : Nat) : P (L.getD i 0) := by
  rw [List.getD_eq_getElem?_getD]
  by_cases hi : i < L.length
  · rw [List.getElem?_eq_getElem hi]
    exact h _ (List.getElem_mem hi)
  · rw [List.getElem?_eq_none (by omega)]
    exact h0
theorem lsL_head : ∀ t s i, (lsL t s).getD i 0 ≤ (lsL t s).getD 0 0
  | 0, _, i => by simp [lsL]
  | t + 1, s, i => by
    by_cases h : 2 ^ (t + 1) ≤ s
    · have h1 : (lsL (t + 1) s).getD 0 0 = ((t + 1 : Nat) : Int) := by rw [lsL_take h]; rfl
      rw [h1]
      exact getD_bd (P := fun x => x ≤ ((t + 1 : Nat) : Int)) (fun x hx => (lsL_bd _ _ x hx).2) (by omega) i
    · rw [lsL_pass (by omega)]
      exact lsL_head t s i
/-- The cells of the least list of tiles. -/
def pkF (s : Nat) : Nat → Int := fun i => (lsL 17 s).getD i 0
theorem pkF_bd (s i : Nat) : 0 ≤ pkF s i ∧ pkF s i ≤ 17 :=
  getD_bd (P := fun x => 0 ≤ x ∧ x ≤ 17) (fun x hx => by have := lsL_bd 17 s x hx; omega) (by omega) i
theorem pk_vd (s : Nat) : Vd (pkF s) := fun i _ => pkF_bd s i
theorem take_sum (g : Int → Int) (h0 : g 0 = 0) (L : List Int) : ∀ k, ((L.take (k + 1)).map g).sum = ((L.take k).map g).sum + g (L.getD k 0) := by
  intro k
  rw [List.take_add_one, sum_app]
  congr 1
  by_cases hk : k < L.length
  · simp [List.getD_eq_getElem?_getD, List.getElem?_eq_getElem hk]
  · simp [List.getD_eq_getElem?_getD, List.getElem?_eq_none (Nat.le_of_not_lt hk), h0]
theorem fold_list (g : Int → Int) (h0 : g 0 = 0) (L : List Int) (F : Nat → Int) (hz : F 0 = 0) (hs : ∀ k, F (k + 1) = F k + g (L.getD k 0)) : ∀ k, F k = ((L.take k).map g).sum
  | 0 => by simp [hz]
  | k + 1 => by rw [hs k, fold_list g h0 L F hz hs k, take_sum g h0 L k]
theorem pk_sum (s : Nat) (he : s % 2 = 0) (hl : lsN s ≤ 16) : sumF (pkF s) 16 = s := by
  have h := fold_list worthZ (by decide) (lsL 17 s) (sumF (pkF s)) rfl (fun _ => rfl) 16
  rw [h, List.take_of_length_le (by rw [lsN_len]; exact hl), lsL_sum, if_neg (by omega)]
  omega
theorem pk_man (s : Nat) (hl : lsN s ≤ 16) : manF (pkF s) 16 = lsN s := by
  have h := fold_list (fun x => if 0 < x then 1 else 0) (by decide) (lsL 17 s) (manF (pkF s)) rfl (fun _ => rfl) 16
  rw [h, List.take_of_length_le (by rw [lsN_len]; exact hl), ← lsN_len]
  have : ∀ L : List Int, (∀ x, x ∈ L → 1 ≤ x) → (L.map (fun x => if 0 < x then (1 : Int) else 0)).sum = L.length := by
    intro L
    induction L with
    | nil => intro _; rfl
    | cons x L ih =>
      intro hx
      have h1 := hx x (by simp)
      rw [List.map_cons, List.sum_cons, ih (fun y hy => hx y (by simp [hy])), if_pos (by omega), List.length_cons]
      omega
  exact this _ (fun x hx => (lsL_bd _ _ x hx).1)
theorem pk_cnt (s : Nat) (hl : lsN s ≤ 16) {v : Nat} (h1 : 1 ≤ v) (h2 : v < 17) : cntF (pkF s) 16 v ≤ 1 := by
  have h := fold_list (isV (v : Int)) (by simp [isV]; omega) (lsL 17 s) (fun k => cntF (pkF s) k v) rfl (fun _ => rfl) 16
  have h : cntF (pkF s) 16 v = _ := h
  rw [h, List.take_of_length_le (by rw [lsN_len]; exact hl)]
  exact lsL_some s v (by omega)
theorem hi_first {f : Nat → Int} (h0 : 0 ≤ f 0) (h : ∀ i, f i ≤ f 0) : ∀ k, (hiF f (k + 1)).1 = f 0
  | 0 => by
    by_cases e : (0 : Int) < f 0
    · have : (hiF f 1) = (f 0, 0) := hiF_yes (k := 0) e
      rw [this]
    · have : (hiF f 1) = (0, 0) := hiF_no (k := 0) e
      rw [this]
      show (0 : Int) = f 0
      omega
  | k + 1 => by
    have h1 := hi_first h0 h k
    have h2 := h (k + 1)
    rw [hiF_no (by rw [h1]; omega), h1]
/-- The highest tile for a sum. -/
def topN (s : Nat) : Int := (lsL 17 s).getD 0 0
theorem pk_high (s : Nat) : (hiF (pkF s) 16).1 = topN s :=
  hi_first (pkF_bd s 0).1 (fun i => lsL_head 17 s i) 15
theorem topN_bd (s : Nat) : 0 ≤ topN s ∧ topN s ≤ 17 := pkF_bd s 0
theorem lsN_pos {s : Nat} (he : s % 2 = 0) : 0 < lsN s ↔ 0 < s := by
  constructor
  · intro h
    have := lsN_half s
    omega
  · intro h
    rcases Nat.eq_zero_or_pos (lsN s) with e | e
    · have h1 : lsL 17 s = [] := List.eq_nil_of_length_eq_zero (by rw [lsN_len]; exact e)
      have h2 := lsL_sum 17 s
      rw [h1, if_neg (by omega)] at h2
      have h3 : (0 : Int) = s - s % 2 := h2
      omega
    · exact e
theorem topN_pos {s : Nat} (he : s % 2 = 0) : 0 < topN s ↔ 0 < s := by
  rw [← lsN_pos he, ← lsN_len]
  unfold topN
  constructor
  · intro h
    rcases Nat.eq_zero_or_pos (lsL 17 s).length with e | e
    · rw [List.eq_nil_of_length_eq_zero e] at h
      simp at h
    · exact e
  · intro h
    have : (lsL 17 s).getD 0 0 ∈ lsL 17 s := by
      rw [List.getD_eq_getElem?_getD, List.getElem?_eq_getElem h]
      exact List.getElem_mem h
    have := (lsL_bd 17 s _ this).1
    omega
-- boards whose tiles are all different
def PkdB (f : Nat → Int) : Prop := ∀ v : Nat, 1 ≤ v → v ≤ 17 → cntF f 16 v ≤ 1
theorem cnt_mono (f : Nat → Int) (v : Nat) : ∀ k j, j ≤ k → cntF f j v ≤ cntF f k v
  | 0, j, h => by obtain rfl : j = 0 := by omega
                  exact Int.le_refl _
  | k + 1, j, h => by
    by_cases e : j = k + 1
    · subst e; exact Int.le_refl _
    · have h1 := cnt_mono f v k j (by omega)
      show cntF f j v ≤ cntF f k v + _
      split <;> omega
theorem cnt_two {f : Nat → Int} {v i j k : Nat} (hij : i < j) (hjk : j < k) (hi : f i = (v : Int)) (hj : f j = (v : Int)) : 2 ≤ cntF f k v := by
  have h1 : cntF f (i + 1) v = cntF f i v + 1 := by show cntF f i v + (if f i = (v : Int) then 1 else 0) = _; rw [if_pos hi]
  have h2 : cntF f (j + 1) v = cntF f j v + 1 := by show cntF f j v + (if f j = (v : Int) then 1 else 0) = _; rw [if_pos hj]
  have h3 := cnt_mono f v j (i + 1) (by omega)
  have h4 := cnt_mono f v k (j + 1) (by omega)
  have h5 := (cntF_bd f i v).1
  omega
theorem pkd_other {f : Nat → Int} (hf : Vd f) (h : PkdB f) {i j : Nat} (hi : i < 16) (hj : j < 16) (hne : i ≠ j) (hp : 1 ≤ f i) : f i ≠ f j := by
  intro e
  obtain ⟨v, hv⟩ : ∃ v : Nat, f i = (v : Int) := ⟨(f i).toNat, by omega⟩
  have h1 := hf i hi
  have h2 := h v (by omega) (by omega)
  rcases Nat.lt_or_gt_of_ne hne with hl | hl
  · have := cnt_two hl hj hv (by omega); omega
  · have := cnt_two (v := v) hl hi (by omega) hv; omega
theorem prow_none {g : Nat → Int} : ∀ k, (∀ i, i < k → ¬ (g (i + 1) = g i ∧ 1 ≤ g (i + 1) ∧ g (i + 1) ≤ 16)) → prow g k = 0
  | 0, _ => rfl
  | k + 1, h => by rw [prow_no (h k (by omega)), prow_none k (fun i hi => h i (by omega))]
/-- A line of a board whose tiles are all different has no score. -/
theorem slid_none {g : Nat → Int} (h : ∀ i j, i < j → j < 4 → 1 ≤ g i → g i ≠ g j) (hb : ∀ i, i < 4 → 0 ≤ g i) : ∀ k, k ≤ 4 → (slid g k).sc = 0 ∧ ((slid g k).op = 0 ∨ ∃ i, i < k ∧ 1 ≤ g i ∧ (slid g k).op = g i)
  | 0, _ => ⟨rfl, Or.inl rfl⟩
  | k + 1, hk => by
    obtain ⟨h1, h2⟩ := slid_none h hb k (by omega)
    have h3 := hb k (by omega)
    show (slidStep (slid g k) (g k)).sc = 0 ∧ ((slidStep (slid g k) (g k)).op = 0 ∨ ∃ i, i < k + 1 ∧ 1 ≤ g i ∧ (slidStep (slid g k) (g k)).op = g i)
    unfold slidStep
    by_cases e : g k = 0
    · rw [if_pos e]
      refine ⟨h1, ?_⟩
      rcases h2 with h2 | ⟨i, hi, h4, h5⟩
      · exact Or.inl h2
      · exact Or.inr ⟨i, by omega, h4, h5⟩
    · rw [if_neg e, if_neg]
      · exact ⟨h1, Or.inr ⟨k, by omega, by omega, rfl⟩⟩
      · rintro ⟨e1, _⟩
        rcases h2 with h2 | ⟨i, hi, h4, h5⟩
        · omega
        · exact h i k hi (by omega) h4 (by rw [← h5, ← e1])
theorem pkd_score {f : Nat → Int} (hf : Vd f) (h : PkdB f) (d : Nat) : ∀ i, i ≤ 4 → slideS f d i = 0
  | 0, _ => rfl
  | i + 1, hi => by
    have h1 := pkd_score hf h d i (by omega)
    have h2 : (slid (lineF f d i) 4).sc = 0 := (slid_none (g := lineF f d i) (fun a b hab hb hp => by
      have ha4 : a < 4 := by omega
      refine pkd_other hf h (pos_lt (by omega) ha4) (pos_lt (by omega) hb) ?_ hp
      intro e
      have := congrArg (placeOf d) e
      rw [placeOf_pos (by omega) ha4, placeOf_pos (by omega) hb] at this
      omega) (fun a ha => (lineF_vd hf d (by omega) a ha).1) 4 (by omega)).1
    show slideS f d i + (slid (lineF f d i) 4).sc = 0
    omega
theorem pkd_pairs {f : Nat → Int} (hf : Vd f) (h : PkdB f) : plines f 4 = 0 := by
  have hr : ∀ g : Nat → Int, (∀ a, g a = f a) → ∀ r, r ≤ 4 → prows g r = 0 := by
    intro g hg r
    obtain rfl : g = f := funext hg
    induction r with
    | zero => intro _; rfl
    | succ r ih =>
      intro hr
      show prows g r + prow (fun c => g (r * 4 + c)) 3 = 0
      rw [ih (by omega), prow_none 3]
      · rfl
      · intro i hi
        rintro ⟨e, e1, _⟩
        exact pkd_other hf h (i := r * 4 + (i + 1)) (j := r * 4 + i) (by omega) (by omega) (by omega) e1 e
  have ht : ∀ r, r ≤ 4 → prows (fun j => f (j % 4 * 4 + j / 4)) r = 0 := by
    intro r
    induction r with
    | zero => intro _; rfl
    | succ r ih =>
      intro hr
      show prows (fun j => f (j % 4 * 4 + j / 4)) r + prow (fun c => (fun j => f (j % 4 * 4 + j / 4)) (r * 4 + c)) 3 = 0
      rw [ih (by omega), prow_none 3]
      · rfl
      · intro i hi
        rintro ⟨e, e1, _⟩
        exact pkd_other hf h (i := (r * 4 + (i + 1)) % 4 * 4 + (r * 4 + (i + 1)) / 4) (j := (r * 4 + i) % 4 * 4 + (r * 4 + i) / 4) (by omega) (by omega) (by omega) e1 e
  rw [plines_rows f 4 (by omega), hr f (fun _ => rfl) 4 (by omega), ht 4 (by omega)]
  rfl
end Go.Proofs.Ytmcmpedmgibmkaa.Plain
namespace Go.Proofs.Ytmcmpedmgibmkaa.Plain
/-- A sum that is valid, even, and possible for at most 16 tiles. -/
def SumOk (s : Int) : Prop := 0 ≤ s ∧ s ≤ 2097152 ∧ s % 2 = 0 ∧ lsN s.toNat ≤ 16
instance (s : Int) : Decidable (SumOk s) := by unfold SumOk; infer_instance
def lsO (s : Int) : Bool := decide (SumOk s)
def lsR (s : Int) : Int := if SumOk s then lsN s.toNat else 0
def pkR (s : Int) : Nat → Int := if SumOk s then pkF s.toNat else fun _ => 0
def hfR (s : Int) : Int := if SumOk s then topN s.toNat else 0
theorem ls_yes {s : Int} (h : SumOk s) : lsO s = true ∧ lsR s = lsN s.toNat ∧ pkR s = pkF s.toNat ∧ hfR s = topN s.toNat := by simp [lsO, lsR, pkR, hfR, h]
theorem ls_no {s : Int} (h : ¬ SumOk s) : lsO s = false ∧ lsR s = 0 ∧ pkR s = (fun _ => 0) ∧ hfR s = 0 := by simp [lsO, lsR, pkR, hfR, h]
/-- What IsPossible returns. -/
def PoOk (s m : Int) : Prop := 0 ≤ s ∧ s ≤ 2097152 ∧ 0 ≤ m ∧ m ≤ 16
instance (s m : Int) : Decidable (PoOk s m) := by unfold PoOk; infer_instance
def PoB (s m : Int) : Prop := s % 2 = 0 ∧ (lsN s.toNat : Int) ≤ m ∧ m ≤ s / 2
instance (s m : Int) : Decidable (PoB s m) := by unfold PoB; infer_instance
def poO (s m : Int) : Bool := decide (PoOk s m)
def poR (s m : Int) : Bool := decide (PoOk s m ∧ PoB s m)
theorem po_yes {s m : Int} (h : PoOk s m) : poO s m = true ∧ poR s m = decide (PoB s m) := by simp [poO, poR, h]
theorem po_no {s m : Int} (h : ¬ PoOk s m) : poO s m = false ∧ poR s m = false := by simp [poO, poR, h]
/-- What MovesBetween returns. -/
def MbOk (f g : Nat → Int) : Prop := Vd f ∧ Vd g ∧ sumF f 16 ≤ sumF g 16
instance (f g : Nat → Int) : Decidable (MbOk f g) := by unfold MbOk; infer_instance
def mvO (f g : Nat → Int) : Bool := decide (MbOk f g)
def mvL (f g : Nat → Int) : Int := if MbOk f g then (sumF g 16 - sumF f 16 + 2) / 4 else 0
def mvM (f g : Nat → Int) : Int := if MbOk f g then (sumF g 16 - sumF f 16) / 2 else 0
theorem mv_yes {f g : Nat → Int} (h : MbOk f g) : mvO f g = true ∧ mvL f g = (sumF g 16 - sumF f 16 + 2) / 4 ∧ mvM f g = (sumF g 16 - sumF f 16) / 2 := by simp [mvO, mvL, mvM, h]
theorem mv_no {f g : Nat → Int} (h : ¬ MbOk f g) : mvO f g = false ∧ mvL f g = 0 ∧ mvM f g = 0 := by simp [mvO, mvL, mvM, h]
/-- The sum of a board is even, and not more than MaxSum. -/
theorem sum_even {f : Nat → Int} (hf : Vd f) : sumF f 16 % 2 = 0 := by
  obtain ⟨h1, h2, _⟩ := sum_least hf 16 (by omega)
  omega
theorem worth_17 {t : Int} (h0 : 0 ≤ t) (h1 : t ≤ 17) : worth t ≤ 131072 := by
  unfold worth
  have : t.toNat ≤ 17 := by omega
  have h := Nat.pow_le_pow_right (n := 2) (by omega) this
  have : (2 : Int) ^ t.toNat = ((2 ^ t.toNat : Nat) : Int) := by simp
  omega
theorem sum_max {f : Nat → Int} (hf : Vd f) : ∀ k, k ≤ 16 → sumF f k ≤ k * 131072
  | 0, _ => by simp [sumF]
  | k + 1, h => by
    have h1 := sum_max hf k (by omega)
    have h2 := hf k (by omega)
    have h3 := worth_17 h2.1 h2.2
    show sumF f k + worthZ (f k) ≤ _
    unfold worthZ
    split <;> omega
theorem sum_bd {f : Nat → Int} (hf : Vd f) : 0 ≤ sumF f 16 ∧ sumF f 16 ≤ 2097152 := by
  have h1 := sumF_bd hf 16 (by omega)
  have h2 := sum_max hf 16 (by omega)
  omega
theorem man_bd16 (f : Nat → Int) : 0 ≤ manF f 16 ∧ manF f 16 ≤ 16 := by
  have := manF_bd f 16
  omega
/-- The least list of a board's sum has no more tiles than the board: the sum is one of those of LeastTiles. -/
theorem sum_ok {f : Nat → Int} (hf : Vd f) : SumOk (sumF f 16) ∧ (lsN (sumF f 16).toNat : Int) ≤ manF f 16 := by
  obtain ⟨h1, h2, h3⟩ := sum_least hf 16 (by omega)
  have h4 := sum_bd hf
  have h5 := man_bd16 f
  exact ⟨⟨h4.1, h4.2, by omega, by omega⟩, h3⟩
/-- What ScoreBetween returns. -/
def SbOk (f g : Nat → Int) (t : Int) : Prop := Vd f ∧ Vd g ∧ 0 ≤ t ∧ t ≤ 2097152
instance (f g : Nat → Int) (t : Int) : Decidable (SbOk f g t) := by unfold SbOk; infer_instance
def sbO (f g : Nat → Int) (t : Int) : Bool := decide (SbOk f g t)
def sbR (f g : Nat → Int) (t : Int) : Int := if SbOk f g t then potF g 16 - potF f 16 - 4 * t else 0
theorem sb_yes {f g : Nat → Int} {t : Int} (h : SbOk f g t) : sbO f g t = true ∧ sbR f g t = potF g 16 - potF f 16 - 4 * t := by simp [sbO, sbR, h]
theorem sb_no {f g : Nat → Int} {t : Int} (h : ¬ SbOk f g t) : sbO f g t = false ∧ sbR f g t = 0 := by simp [sbO, sbR, h]
/-- What MergersLeft returns. -/
def mlR (f : Nat → Int) : Int := if Vd f then manF f 16 - lsN (sumF f 16).toNat else 0
theorem ml_yes {f : Nat → Int} (h : Vd f) : mlR f = manF f 16 - lsN (sumF f 16).toNat := by simp [mlR, h]
theorem ml_no {f : Nat → Int} (h : ¬ Vd f) : mlR f = 0 := by simp [mlR, h]
theorem ml_bd {f : Nat → Int} (h : Vd f) : 0 ≤ mlR f ∧ mlR f ≤ 16 := by
  rw [ml_yes h]
  have h1 := (sum_ok h).2
  have h2 := man_bd16 f
  omega
theorem man_emp (f : Nat → Int) (hf : Vd f) : ∀ k, k ≤ 16 → manF f k = k - empN f k
  | 0, _ => rfl
  | k + 1, h => by
    have h1 := man_emp f hf k (by omega)
    have h2 := hf k (by omega)
    have h3 := empN_step f k
    show manF f k + (if 0 < f k then 1 else 0) = _
    rw [h3]
    by_cases e : f k = 0
    · rw [if_neg (by omega), if_pos e]; omega
    · rw [if_pos (by omega), if_neg e]; omega
/-- No slide has more mergers than MergersLeft tells. -/
theorem ml_merg {f : Nat → Int} (hf : Vd f) {d : Nat} (hd : d < 4) : slideM f d 4 ≤ mlR f := by
  rw [ml_yes hf]
  have h1 := emp_slide hf hd
  have h2 := (sum_ok (slideB_vd hf d)).2
  have h3 := man_emp f hf 16 (by omega)
  have h4 := man_emp (slideB f d) (slideB_vd hf d) 16 (by omega)
  rw [sum_slide hf hd] at h2
  omega
/-- What IsPackedBoard returns. -/
def pkB (f : Nat → Int) : Nat → Bool
  | 0 => true
  | T + 1 => pkB f T && decide (cntF f 16 (T + 1) ≤ 1)
theorem pkB_yes {f : Nat → Int} : ∀ T, pkB f T = true → ∀ v : Nat, 1 ≤ v → v ≤ T → cntF f 16 v ≤ 1
  | 0, _, v, h1, h2 => by omega
  | T + 1, h, v, h1, h2 => by
    simp only [pkB, Bool.and_eq_true, decide_eq_true_eq] at h
    by_cases e : v = T + 1
    · subst e; exact h.2
    · exact pkB_yes T h.1 v h1 (by omega)
theorem pkB_of {f : Nat → Int} : ∀ T, (∀ v : Nat, 1 ≤ v → v ≤ T → cntF f 16 v ≤ 1) → pkB f T = true
  | 0, _ => rfl
  | T + 1, h => by
    simp only [pkB, Bool.and_eq_true, decide_eq_true_eq]
    exact ⟨pkB_of T fun v h1 h2 => h v h1 (by omega), h (T + 1) (by omega) (by omega)⟩
theorem pkB_no {f : Nat → Int} {T v : Nat} (h1 : 1 ≤ v) (h2 : v ≤ T) (h : 1 < cntF f 16 v) : pkB f T = false := by
  cases e : pkB f T with
  | false => rfl
  | true => have := pkB_yes T e v h1 h2; omega
def ipR (f : Nat → Int) : Bool := decide (Vd f) && pkB f 17
theorem ip_yes {f : Nat → Int} (h : Vd f) : ipR f = pkB f 17 := by simp [ipR, h]
theorem ip_no {f : Nat → Int} (h : ¬ Vd f) : ipR f = false := by simp [ipR, h]
theorem ip_pkd {f : Nat → Int} (h : ipR f = true) : Vd f ∧ PkdB f := by
  simp only [ipR, Bool.and_eq_true, decide_eq_true_eq] at h
  exact ⟨h.1, fun v h1 h2 => pkB_yes 17 h.2 v h1 h2⟩
end Go.Proofs.Ytmcmpedmgibmkaa.Plain
