/-
  Plain facts on slides that are made again and again: without a merger a slide moves the cells by a permutation that the empty cells alone tell; so some board comes back soon. No program stands in this text.
-/
import Derived.Test.YtknjmkapabjolaaSlidesPlain
import Derived.Test.YtknjmkapabjolaaPlainA
import Derived.Test.YtknjmkapabjolaaLenPlain
set_option linter.unusedVariables false
namespace Go.Proofs.Ytknjmkapabjolaa.Plain

/-- Two of N + 1 values below N are the same. -/
theorem pigeon (N : Nat) (g : Nat → Nat) (h : ∀ i, i ≤ N → g i < N) : ∃ i j, i < j ∧ j ≤ N ∧ g i = g j := by
  apply Classical.byContradiction
  intro hn
  have hd : ((List.range (N + 1)).map g).Nodup := by
    rw [List.nodup_iff_pairwise_ne, List.pairwise_map, List.pairwise_iff_getElem]
    intro i j hi hj hij e
    simp only [List.getElem_range, List.length_range] at e hi hj
    exact hn ⟨i, j, hij, by omega, e⟩
  have := len_sub _ (List.range N) hd fun x hx => by
    obtain ⟨i, hi, rfl⟩ := List.mem_map.1 hx
    exact List.mem_range.2 (h i (by have := List.mem_range.1 hi; omega))
  simp at this
  omega
def itF (g : Nat → Nat) : Nat → Nat → Nat
  | 0, q => q
  | n + 1, q => itF g n (g q)
theorem itF_succ (g : Nat → Nat) : ∀ n q, itF g (n + 1) q = g (itF g n q)
  | 0, q => rfl
  | n + 1, q => itF_succ g n (g q)
theorem itF_add (g : Nat → Nat) : ∀ n m q, itF g (n + m) q = itF g n (itF g m q)
  | n, 0, q => rfl
  | n, m + 1, q => itF_add g n m (g q)
theorem itF_lt {g : Nat → Nat} (h : ∀ q, q < 16 → g q < 16) : ∀ n q, q < 16 → itF g n q < 16
  | 0, q, hq => hq
  | n + 1, q, hq => itF_lt h n (g q) (h q hq)
theorem itF_inj {g : Nat → Nat} (h : ∀ q, q < 16 → g q < 16) (hi : ∀ q r, q < 16 → r < 16 → g q = g r → q = r) : ∀ n q r, q < 16 → r < 16 → itF g n q = itF g n r → q = r
  | 0, q, r, _, _, e => e
  | n + 1, q, r, hq, hr, e => hi q r hq hr (itF_inj h hi n (g q) (g r) (h q hq) (h r hr) e)
theorem itF_mul {g : Nat → Nat} {l q : Nat} (e : itF g l q = q) : ∀ k, itF g (k * l) q = q
  | 0 => by rw [Nat.zero_mul]; rfl
  | k + 1 => by rw [Nat.add_mul, Nat.one_mul, itF_add, e, itF_mul e k]
/-- A permutation of sixteen is back behind 720720 times. -/
theorem itF_back {g : Nat → Nat} (h : ∀ q, q < 16 → g q < 16) (hi : ∀ q r, q < 16 → r < 16 → g q = g r → q = r) {q : Nat} (hq : q < 16) : itF g 720720 q = q := by
  obtain ⟨i, j, hij, hj, e⟩ := pigeon 16 (fun n => itF g n q) fun n _ => itF_lt h n q hq
  have e2 : itF g (j - i) q = q := by
    have : itF g (i + (j - i)) q = itF g i q := by rw [show i + (j - i) = j by omega]; exact e.symm
    rw [itF_add] at this
    exact itF_inj h hi i _ _ (itF_lt h _ q hq) hq this
  obtain ⟨c, hc⟩ : ∃ c, c * (j - i) = 720720 := by
    have hl : 1 ≤ j - i ∧ j - i ≤ 16 := by omega
    generalize j - i = l at hl
    have : ∀ l, l < 17 → 1 ≤ l → 720720 / l * l = 720720 := by decide
    exact ⟨720720 / l, this l (by omega) hl.1⟩
  rw [← hc]; exact itF_mul e2 c
/-- The number that a row of sixteen Booleans tells. -/
def codeZ (z : Nat → Bool) : Nat → Nat
  | 0 => 0
  | k + 1 => codeZ z k + (if z k then 2 ^ k else 0)
theorem codeZ_lt (z : Nat → Bool) : ∀ k, codeZ z k < 2 ^ k
  | 0 => by simp [codeZ]
  | k + 1 => by have := codeZ_lt z k; unfold codeZ; rw [Nat.pow_succ]; split <;> omega
theorem codeZ_inj (z y : Nat → Bool) : ∀ k, codeZ z k = codeZ y k → ∀ j, j < k → z j = y j
  | 0, _, j, h => by omega
  | k + 1, e, j, h => by
    have h1 := codeZ_lt z k
    have h2 := codeZ_lt y k
    unfold codeZ at e
    have ek : z k = y k := by
      cases hz : z k <;> cases hy : y k <;> simp [hz, hy] at e ⊢ <;> omega
    rw [ek] at e
    by_cases hj : j = k
    · subst hj; exact ek
    · exact codeZ_inj z y k (by omega) j (by omega)
/-- The cells that are not empty. -/
def zf (f : Nat → Int) : Nat → Bool := fun i => !(f i == 0)
/-- A permutation of sixteen cells for each row of Booleans. -/
structure Perm (t : (Nat → Bool) → Nat → Nat) : Prop where
  lt : ∀ z j, j < 16 → t z j < 16
  inj : ∀ z j l, j < 16 → l < 16 → t z j = t z l → j = l
  con : ∀ z y, (∀ i, i < 16 → z i = y i) → ∀ j, j < 16 → t z j = t y j
/-- g is f with its cells moved by t. -/
def Rel (t : (Nat → Bool) → Nat → Nat) (f g : Nat → Int) : Prop := ∀ j, j < 16 → g j = f (t (zf f) j)
def cmp (t u : (Nat → Bool) → Nat → Nat) : (Nat → Bool) → Nat → Nat := fun z j => t z (u (fun i => z (t z i)) j)
theorem Rel.zf {t : (Nat → Bool) → Nat → Nat} {f g : Nat → Int} (h : Rel t f g) : ∀ j, j < 16 → Plain.zf g j = Plain.zf f (t (Plain.zf f) j) := fun j hj => by unfold Plain.zf; rw [h j hj]; rfl
theorem Perm.cmp {t u : (Nat → Bool) → Nat → Nat} (ht : Perm t) (hu : Perm u) : Perm (cmp t u) where
  lt z j hj := ht.lt _ _ (hu.lt _ _ hj)
  inj z j l hj hl e := hu.inj _ _ _ hj hl (ht.inj _ _ _ (hu.lt _ _ hj) (hu.lt _ _ hl) e)
  con z y h j hj := by
    have e : ∀ i, i < 16 → z (t z i) = y (t y i) := fun i hi => by rw [ht.con z y h i hi]; exact h _ (ht.lt _ _ hi)
    show t z (u _ j) = t y (u _ j)
    rw [hu.con _ _ e j hj, ht.con z y h _ (hu.lt _ _ hj)]
theorem Rel.cmp {t u : (Nat → Bool) → Nat → Nat} {f g k : Nat → Int} (hu : Perm u) (h1 : Rel t f g) (h2 : Rel u g k) : Rel (Plain.cmp t u) f k := fun j hj => by
  rw [h2 j hj, hu.con _ _ h1.zf j hj, h1 _ (hu.lt _ _ hj)]
  rfl
theorem perm_id : Perm fun _ j => j := ⟨fun _ _ h => h, fun _ _ _ _ _ e => e, fun _ _ _ _ _ => rfl⟩
/-- The same move p times. -/
def powT (t : (Nat → Bool) → Nat → Nat) : Nat → (Nat → Bool) → Nat → Nat
  | 0 => fun _ j => j
  | p + 1 => cmp (powT t p) t
theorem powT_perm {t : (Nat → Bool) → Nat → Nat} (ht : Perm t) : ∀ p, Perm (powT t p)
  | 0 => perm_id
  | p + 1 => (powT_perm ht p).cmp ht
theorem powT_rel {t : (Nat → Bool) → Nat → Nat} (ht : Perm t) (s : Nat → Nat → Int) (a : Nat) : ∀ p, (∀ n, n < p → Rel t (s (a + n)) (s (a + n + 1))) → Rel (powT t p) (s a) (s (a + p))
  | 0, _ => fun _ _ => rfl
  | p + 1, h => Rel.cmp ht (powT_rel ht s a p fun n hn => h n (by omega)) (h p (by omega))
/-- Where the same move is made again and again some board comes back. -/
theorem moved_back {t : (Nat → Bool) → Nat → Nat} (ht : Perm t) (s : Nat → Nat → Int) (n0 : Nat) (h : ∀ n, n < 65536 * 720721 → Rel t (s (n0 + n)) (s (n0 + n + 1))) :
    ∃ i j, n0 ≤ i ∧ i < j ∧ j ≤ n0 + 65536 * 720721 ∧ ∀ q, q < 16 → s i q = s j q := by
  obtain ⟨a, b, hab, hb, e⟩ := pigeon 65536 (fun n => codeZ (zf (s (n0 + n))) 16) fun n _ => codeZ_lt _ 16
  have ez := codeZ_inj _ _ 16 e
  obtain ⟨p, hp⟩ : ∃ p, b = a + p := ⟨b - a, by omega⟩
  subst hp
  have hP := powT_perm ht p
  have key : ∀ k, k ≤ 720720 → (∀ q, q < 16 → zf (s (n0 + a + k * p)) q = zf (s (n0 + a)) q) ∧ ∀ q, q < 16 → s (n0 + a + k * p) q = s (n0 + a) (itF (powT t p (zf (s (n0 + a)))) k q) := by
    intro k
    induction k with
    | zero => intro _; rw [Nat.zero_mul, Nat.add_zero]; exact ⟨fun _ _ => rfl, fun _ _ => rfl⟩
    | succ k ih =>
      intro hk
      obtain ⟨i1, i2⟩ := ih (by omega)
      have hkp : k * p ≤ 720719 * p := Nat.mul_le_mul_right p (by omega)
      have hr := powT_rel ht s (n0 + a + k * p) p fun n hn => by
        have := h (a + k * p + n) (by omega)
        rw [show n0 + (a + k * p + n) = n0 + a + k * p + n by omega] at this
        exact this
      have hr0 := powT_rel ht s (n0 + a) p fun n hn => by
        have := h (a + n) (by omega)
        rw [show n0 + (a + n) = n0 + a + n by omega] at this
        exact this
      have e1 : n0 + a + (k + 1) * p = n0 + a + k * p + p := by rw [Nat.add_mul]; omega
      rw [e1]
      refine ⟨fun q hq => ?_, fun q hq => ?_⟩
      · have c := hP.con _ _ i1 q hq
        rw [hr.zf q hq, c, i1 _ (hP.lt _ _ hq), ← hr0.zf q hq, Nat.add_assoc]
        exact (ez q hq).symm
      · rw [hr q hq, hP.con _ _ i1 q hq, i2 _ (hP.lt _ _ hq)]
        rfl
  have hk := (key 720720 (Nat.le_refl _)).2
  refine ⟨n0 + a, n0 + a + 720720 * p, by omega, by omega, by omega, fun q hq => ?_⟩
  rw [hk q hq, itF_back (fun q hq => hP.lt _ _ hq) (fun q r hq hr e => hP.inj _ _ _ hq hr e) hq]
end Go.Proofs.Ytknjmkapabjolaa.Plain
