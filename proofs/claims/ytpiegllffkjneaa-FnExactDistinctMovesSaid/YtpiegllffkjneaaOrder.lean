/-
  Plain facts on lists of numbers in their order, and on lists of such that are put in order. No program stands in this text.
-/
import Derived.Test.YtpiegllffkjneaaLessPlain
namespace Go.Proofs.Ytpiegllffkjneaa.Plain
theorem lessN_trans {n : Nat} {f g h : Nat → Int} : lessN n f g → lessN n g h → lessN n f h := by
  rintro ⟨j, hj, e1, l1⟩ ⟨k, hk, e2, l2⟩
  rcases Nat.lt_trichotomy j k with l | l | l
  · exact ⟨j, hj, fun i hi => (e1 i hi).trans (e2 i (by omega)), by rw [← e2 j l]; exact l1⟩
  · subst l; exact ⟨j, hj, fun i hi => (e1 i hi).trans (e2 i hi), by omega⟩
  · exact ⟨k, hk, fun i hi => (e1 i (by omega)).trans (e2 i hi), by rw [e1 k l]; exact l2⟩
theorem lessN_total {f g : Nat → Int} : ∀ n, (∀ i, i < n → f i = g i) ∨ lessN n f g ∨ lessN n g f
  | 0 => Or.inl fun i hi => by omega
  | n + 1 => by
    rcases lessN_total (f := f) (g := g) n with h | ⟨j, hj, h⟩ | ⟨j, hj, h⟩
    · rcases Int.lt_trichotomy (f n) (g n) with l | l | l
      · exact Or.inr (Or.inl ⟨n, by omega, h, l⟩)
      · exact Or.inl fun i hi => by
          rcases (by omega : i < n ∨ i = n) with q | rfl
          · exact h i q
          · exact l
      · exact Or.inr (Or.inr ⟨n, by omega, fun i hi => (h i hi).symm, l⟩)
    · exact Or.inr (Or.inl ⟨j, by omega, h⟩)
    · exact Or.inr (Or.inr ⟨j, by omega, h⟩)
theorem lessN_congr {n : Nat} {f f' g g' : Nat → Int} (hf : ∀ i, i < n → f i = f' i) (hg : ∀ i, i < n → g i = g' i) : lessN n f g ↔ lessN n f' g' := by
  constructor
  · rintro ⟨j, hj, e, l⟩; exact ⟨j, hj, fun i hi => by rw [← hf i (by omega), ← hg i (by omega)]; exact e i hi, by rw [← hf j hj, ← hg j hj]; exact l⟩
  · rintro ⟨j, hj, e, l⟩; exact ⟨j, hj, fun i hi => by rw [hf i (by omega), hg i (by omega)]; exact e i hi, by rw [hf j hj, hg j hj]; exact l⟩

/-- The first n numbers, and the numbers of a list. -/
def cl (n : Nat) (f : Nat → Int) : List Int := (List.range n).map f
def fn (l : List Int) : Nat → Int := fun i => l.getD i 0
theorem cl_len (n : Nat) (f : Nat → Int) : (cl n f).length = n := by simp [cl]
theorem fn_cl {n : Nat} (f : Nat → Int) : ∀ i, i < n → fn (cl n f) i = f i := fun i hi => by simp [fn, cl, List.getD, hi]
theorem cl_fn {n : Nat} {l : List Int} (h : l.length = n) : cl n (fn l) = l := by
  refine List.ext_getElem (by rw [cl_len, h]) fun i h1 h2 => ?_
  simp [cl, fn, List.getD, h2]
theorem cl_inj {n : Nat} {f g : Nat → Int} : cl n f = cl n g ↔ ∀ i, i < n → f i = g i := by
  constructor
  · intro h i hi
    have := congrArg (fun l => fn l i) h
    simp only [fn_cl _ i hi] at this
    exact this
  · intro h
    refine List.ext_getElem (by rw [cl_len, cl_len]) fun i h1 h2 => ?_
    have : i < n := by rw [cl_len] at h1; exact h1
    simp [cl, h i this]

/-- The order of lists of n numbers. -/
noncomputable def lt (n : Nat) (a b : List Int) : Bool := decide (lessN n (fn a) (fn b))
theorem lt_irrefl (n : Nat) (a : List Int) : lt n a a = false := by unfold lt; rw [decide_eq_false_iff_not]; exact lessN_none fun _ _ => rfl
theorem lt_trans {n : Nat} {a b c : List Int} (h : lt n a b = true) (k : lt n b c = true) : lt n a c = true := by
  unfold lt at *; rw [decide_eq_true_iff] at *; exact lessN_trans h k
theorem lt_asym {n : Nat} {a b : List Int} (h : lt n a b = true) : lt n b a = false := by
  rcases hb : lt n b a with _ | _
  · rfl
  · have := lt_trans h hb; rw [lt_irrefl] at this; cases this
theorem lt_total {n : Nat} {a b : List Int} (ha : a.length = n) (hb : b.length = n) (h : lt n a b = false) (k : lt n b a = false) : a = b := by
  unfold lt at *; rw [decide_eq_false_iff_not] at *
  rcases lessN_total (f := fn a) (g := fn b) n with e | e | e
  · rw [← cl_fn ha, ← cl_fn hb]; exact cl_inj.2 e
  · exact absurd e h
  · exact absurd e k
theorem lt_cl (n : Nat) (f g : Nat → Int) : lt n (cl n f) (cl n g) = decide (lessN n f g) := by
  unfold lt; rw [Bool.eq_iff_iff, decide_eq_true_iff, decide_eq_true_iff]; exact lessN_congr (fn_cl f) (fn_cl g)

/-! Lists in order -/
set_option linter.unusedSectionVars false
variable {α : Type} [DecidableEq α] (l : α → α → Bool)
def SS (L : List α) : Prop := L.Pairwise fun x y => l x y = true
/-- The place at which b stands, or belongs. -/
def plcL (b : α) : List α → Nat
  | [] => 0
  | x :: xs => if l x b = true then plcL b xs + 1 else 0
def insL (L : List α) (b : α) : List α := if L[plcL l b L]? = some b then L else L.take (plcL l b L) ++ b :: L.drop (plcL l b L)
theorem plc_le (b : α) : ∀ L : List α, plcL l b L ≤ L.length
  | [] => Nat.le_refl _
  | x :: xs => by
    have := plc_le b xs
    unfold plcL; split <;> simp <;> omega
theorem plcL_lt (b : α) : ∀ (L : List α) (i : Nat) (x : α), i < plcL l b L → L[i]? = some x → l x b = true
  | [], i, x, h, _ => by simp [plcL] at h
  | y :: ys, i, x, h, hx => by
    unfold plcL at h
    split at h
    · rename_i hy
      cases i with
      | zero => simp at hx; subst hx; exact hy
      | succ i => exact plcL_lt b ys i x (by omega) (by simpa using hx)
    · omega
theorem plc_at (b : α) : ∀ (L : List α) (x : α), L[plcL l b L]? = some x → l x b = false
  | [], x, h => by simp [plcL] at h
  | y :: ys, x, h => by
    unfold plcL at h
    split at h
    · exact plc_at b ys x (by simpa using h)
    · rename_i hy
      simp at h; subst h; simpa using hy
theorem plc_eq (b : α) : ∀ (L : List α) (n : Nat), n ≤ L.length → (∀ i x, i < n → L[i]? = some x → l x b = true) → (∀ x, L[n]? = some x → l x b = false) → plcL l b L = n
  | [], n, hn, _, _ => by simp at hn; subst hn; rfl
  | y :: ys, n, hn, h1, h2 => by
    cases n with
    | zero =>
      have := h2 y (by simp)
      simp [plcL, this]
    | succ n =>
      have hy := h1 0 y (by omega) (by simp)
      have := plc_eq b ys n (by simpa using hn) (fun i x hi hx => h1 (i + 1) x (by omega) (by simpa using hx)) (fun x hx => h2 x (by simpa using hx))
      simp [plcL, hy, this]
theorem ins_mem (L : List α) (b x : α) : x ∈ insL l L b ↔ x ∈ L ∨ x = b := by
  unfold insL
  split
  · rename_i h
    have hb := List.mem_of_getElem? h
    constructor
    · exact Or.inl
    · rintro (h | rfl)
      · exact h
      · exact hb
  · constructor
    · intro h
      rcases List.mem_append.1 h with h | h
      · exact Or.inl (List.mem_of_mem_take h)
      · rcases List.mem_cons.1 h with h | h
        · exact Or.inr h
        · exact Or.inl (List.mem_of_mem_drop h)
    · rintro (h | rfl)
      · rw [← List.take_append_drop (plcL l b L) L] at h
        rcases List.mem_append.1 h with h | h
        · exact List.mem_append.2 (Or.inl h)
        · exact List.mem_append.2 (Or.inr (List.mem_cons.2 (Or.inr h)))
      · simp
theorem ins_len (L : List α) (b : α) : (insL l L b).length = if L[plcL l b L]? = some b then L.length else L.length + 1 := by
  have := plc_le l b L
  unfold insL
  split
  · rfl
  · simp; omega
theorem ins_same {L : List α} {b : α} (h : L[plcL l b L]? = some b) : insL l L b = L := by simp [insL, h]
theorem ins_new {L : List α} {b : α} (h : ¬ L[plcL l b L]? = some b) : insL l L b = L.take (plcL l b L) ++ b :: L.drop (plcL l b L) := by simp [insL, h]
theorem ins_ss (htr : ∀ x y z, l x y = true → l y z = true → l x z = true) (L : List α) (b : α) (hto : ∀ x, x ∈ L → l x b = false → l b x = false → x = b) (h : SS l L) : SS l (insL l L b) := by
  by_cases hp : L[plcL l b L]? = some b
  · rw [ins_same l hp]; exact h
  · rw [ins_new l hp]
    have h' : SS l (L.take (plcL l b L) ++ L.drop (plcL l b L)) := by rw [List.take_append_drop]; exact h
    obtain ⟨a1, a2, a3⟩ := List.pairwise_append.1 h'
    have small : ∀ x, x ∈ L.take (plcL l b L) → l x b = true := fun x hx => by
      obtain ⟨i, hi⟩ := List.getElem?_of_mem hx
      rw [List.getElem?_take] at hi
      split at hi
      · rename_i hlt; exact plcL_lt l b L i x hlt hi
      · cases hi
    have great : ∀ x, x ∈ L.drop (plcL l b L) → l b x = true := fun x hx => by
      rcases hd : L.drop (plcL l b L) with _ | ⟨y, ys⟩
      · rw [hd] at hx; cases hx
      · have hy : L[plcL l b L]? = some y := by
          have : (L.drop (plcL l b L))[0]? = some y := by rw [hd]; rfl
          simpa using this
        have hyb : l b y = true := by
          have f1 := plc_at l b L y hy
          rcases h2 : l b y with _ | _
          · have := hto y (List.mem_of_getElem? hy) f1 h2
            subst this; exact absurd hy hp
          · rfl
        rw [hd] at hx a2
        rcases List.mem_cons.1 hx with rfl | hx
        · exact hyb
        · exact htr _ _ _ hyb ((List.pairwise_cons.1 a2).1 x hx)
    refine List.pairwise_append.2 ⟨a1, List.pairwise_cons.2 ⟨great, a2⟩, fun x hx y hy => ?_⟩
    rcases List.mem_cons.1 hy with rfl | hy
    · exact small x hx
    · exact a3 x hx y hy
/-- There is one list in order of the same members. -/
theorem ss_unique (hir : ∀ x, l x x = false) (htr : ∀ x y z, l x y = true → l y z = true → l x z = true) : ∀ (A B : List α), SS l A → SS l B → (∀ x, x ∈ A ↔ x ∈ B) → A = B
  | [], [], _, _, _ => rfl
  | [], b :: B, _, _, h => by have := (h b).2 (by simp); cases this
  | a :: A, [], _, _, h => by have := (h a).1 (by simp); cases this
  | a :: A, b :: B, hA, hB, h => by
    obtain ⟨a1, a2⟩ := List.pairwise_cons.1 hA
    obtain ⟨b1, b2⟩ := List.pairwise_cons.1 hB
    have e : a = b := by
      rcases List.mem_cons.1 ((h a).1 (by simp)) with e | e
      · exact e
      · rcases List.mem_cons.1 ((h b).2 (by simp)) with e' | e'
        · exact e'.symm
        · have := htr _ _ _ (b1 a e) (a1 b e'); rw [hir] at this; cases this
    subst e
    refine congrArg (a :: ·) (ss_unique hir htr A B a2 b2 fun x => ?_)
    constructor
    · intro hx
      rcases List.mem_cons.1 ((h x).1 (List.mem_cons.2 (Or.inr hx))) with e | e
      · subst e; have := a1 x hx; rw [hir] at this; cases this
      · exact e
    · intro hx
      rcases List.mem_cons.1 ((h x).2 (List.mem_cons.2 (Or.inr hx))) with e | e
      · subst e; have := b1 x hx; rw [hir] at this; cases this
      · exact e
/-- A list without what is the same as the one ahead. -/
def dedN (L : List α) : Nat → List α
  | 0 => []
  | k + 1 => match L[k]? with
    | none => dedN L k
    | some x => if 0 < k ∧ L[k - 1]? = some x then dedN L k else dedN L k ++ [x]
theorem ded_yes {L : List α} {k : Nat} {x : α} (h : L[k]? = some x) (hd : 0 < k ∧ L[k - 1]? = some x) : dedN L (k + 1) = dedN L k := by simp only [dedN, h]; rw [if_pos hd]
theorem ded_no {L : List α} {k : Nat} {x : α} (h : L[k]? = some x) (hd : ¬ (0 < k ∧ L[k - 1]? = some x)) : dedN L (k + 1) = dedN L k ++ [x] := by simp only [dedN, h]; rw [if_neg hd]
theorem ded_mem (L : List α) : ∀ k x, x ∈ dedN L k ↔ ∃ i, i < k ∧ L[i]? = some x
  | 0, x => by simp [dedN]
  | k + 1, x => by
    rcases h : L[k]? with _ | y
    · have e : dedN L (k + 1) = dedN L k := by simp [dedN, h]
      rw [e, ded_mem L k x]
      constructor
      · rintro ⟨i, hi, q⟩; exact ⟨i, by omega, q⟩
      · rintro ⟨i, hi, q⟩
        rcases (by omega : i < k ∨ i = k) with p | rfl
        · exact ⟨i, p, q⟩
        · rw [h] at q; cases q
    · by_cases hd : 0 < k ∧ L[k - 1]? = some y
      · rw [ded_yes h hd, ded_mem L k x]
        constructor
        · rintro ⟨i, hi, e⟩; exact ⟨i, by omega, e⟩
        · rintro ⟨i, hi, e⟩
          rcases (by omega : i < k ∨ i = k) with q | rfl
          · exact ⟨i, q, e⟩
          · rw [h] at e; cases e; exact ⟨i - 1, by omega, hd.2⟩
      · rw [ded_no h hd, List.mem_append, ded_mem L k x]
        constructor
        · rintro (⟨i, hi, e⟩ | e)
          · exact ⟨i, by omega, e⟩
          · obtain rfl : x = y := by simpa using e
            exact ⟨k, by omega, h⟩
        · rintro ⟨i, hi, e⟩
          rcases (by omega : i < k ∨ i = k) with q | rfl
          · exact Or.inl ⟨i, q, e⟩
          · rw [h] at e; cases e; exact Or.inr (by simp)
theorem ded_len (L : List α) : ∀ k, (dedN L k).length ≤ k
  | 0 => Nat.le_refl _
  | k + 1 => by
    have := ded_len L k
    unfold dedN
    split
    · omega
    · split
      · omega
      · simp; omega
/-- Of a list in which none comes after a greater one. -/
theorem ded_ss (htr : ∀ x y z, l x y = true → l y z = true → l x z = true) (L : List α) (hto : ∀ x y, x ∈ L → y ∈ L → l x y = false → l y x = false → x = y) (hnt : ∀ x y z, x ∈ L → y ∈ L → z ∈ L → l y x = false → l y z = true → l x z = true ∨ x = y)
    (h : L.Pairwise fun x y => (!l y x) = true) : ∀ k, SS l (dedN L k)
  | 0 => List.Pairwise.nil
  | k + 1 => by
    rcases hk : L[k]? with _ | y
    · have e : dedN L (k + 1) = dedN L k := by simp [dedN, hk]
      rw [e]; exact ded_ss htr L hto hnt h k
    · by_cases hd : 0 < k ∧ L[k - 1]? = some y
      · rw [ded_yes hk hd]; exact ded_ss htr L hto hnt h k
      · rw [ded_no hk hd]
        refine List.pairwise_append.2 ⟨ded_ss htr L hto hnt h k, List.pairwise_singleton _ _, fun x hx z hz => ?_⟩
        obtain rfl : z = y := by simpa using hz
        obtain ⟨i, hi, e⟩ := (ded_mem L k x).1 hx
        have hkl : k < L.length := (List.getElem?_eq_some_iff.1 hk).1
        obtain ⟨u, hu⟩ : ∃ u, L[k - 1]? = some u := ⟨L[k - 1]'(by omega), by simp⟩
        have hn : ∀ i j (x y : α), i < j → L[i]? = some x → L[j]? = some y → l y x = false := fun i j x y hij hx hy => by
          obtain ⟨h1, rfl⟩ := List.getElem?_eq_some_iff.1 hx
          obtain ⟨h2, rfl⟩ := List.getElem?_eq_some_iff.1 hy
          have := List.pairwise_iff_getElem.1 h i j h1 h2 hij
          simpa using this
        have hne : u ≠ z := fun q => hd ⟨by omega, by rw [hu, q]⟩
        have huz : l u z = true := by
          have f1 := hn (k - 1) k u z (by omega) hu hk
          rcases f2 : l u z with _ | _
          · exact absurd (hto u z (List.mem_of_getElem? hu) (List.mem_of_getElem? hk) f2 f1) hne
          · rfl
        rcases (by omega : i < k - 1 ∨ i = k - 1) with q | q
        · rcases hnt x u z (List.mem_of_getElem? e) (List.mem_of_getElem? hu) (List.mem_of_getElem? hk) (hn i (k - 1) x u q e hu) huz with r | r
          · exact r
          · rw [r]; exact huz
        · subst q; rw [hu] at e; cases e; exact huz
end Go.Proofs.Ytpiegllffkjneaa.Plain
