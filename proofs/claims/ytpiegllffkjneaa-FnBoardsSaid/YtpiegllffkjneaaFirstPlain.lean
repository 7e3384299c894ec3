/-
  Plain facts on first forms: they are the least, all forms have the same, forms and symmetries make 8, and distinct moves are as many for all forms.
-/
import Derived.Test.YtpiegllffkjneaaDistKit
import Derived.Test.YtpiegllffkjneaaRowHelp
import Derived.Test.YtpiegllffkjneaaLenPlain
namespace Go.Proofs.Ytpiegllffkjneaa.Plain
theorem isSym_iff {f : Nat → Int} {k : Nat} : isSym f k = true ↔ ∀ p, p < 16 → formF f k p = f p := by unfold isSym; exact sameB_iff
theorem sym_mul {f : Nat → Int} {i j : Nat} (hi : i < 8) (hj : j < 8) (h1 : isSym f i = true) (h2 : isSym f j = true) : isSym f (behN i j) = true := by
  rw [isSym_iff] at *
  intro p hp
  rw [← form_beh f hi hj p hp]
  show formF f i (plc j p) = f p
  rw [h1 _ (plc_lt j hp)]
  exact h2 p hp
theorem beh_assoc : ∀ i, i < 8 → ∀ j, j < 8 → behN (behN i (backN j)) j = i ∧ behN i (backN j) < 8 ∧ behN j (behN (backN j) i) = i ∧ behN (backN j) i < 8 := by decide
theorem form_same {f : Nat → Int} {i j : Nat} (hi : i < 8) (hj : j < 8) : cl 16 (formF f i) = cl 16 (formF f j) ↔ isSym f (behN i (backN j)) = true := by
  rw [cl_inj, isSym_iff]
  constructor
  · intro h p hp
    rw [← form_beh f hi (back_lt j hj) p hp]
    show formF f i (plc (backN j) p) = f p
    rw [h _ (plc_lt _ hp)]
    exact form_back f hj p hp
  · intro h p hp
    obtain ⟨e, hl, _⟩ := beh_assoc i hi j hj
    have h2 := form_beh f hl hj p hp
    rw [e] at h2
    rw [← h2]
    show formF f (behN i (backN j)) (plc j p) = f (plc j p)
    exact h _ (plc_lt j hp)
/-- The different forms, one after another. -/
noncomputable def adF (f : Nat → Int) : Nat → List (List Int)
  | 0 => []
  | k + 1 => addS (adF f k) (cl 16 (formF f k))
theorem adF_mem (f : Nat → Int) : ∀ k x, x ∈ adF f k ↔ ∃ i, i < k ∧ x = cl 16 (formF f i)
  | 0, x => by simp [adF]
  | k + 1, x => by
    unfold adF
    rw [addS_mem, adF_mem f k x]
    constructor
    · rintro (⟨i, hi, e⟩ | e)
      · exact ⟨i, by omega, e⟩
      · exact ⟨k, by omega, e⟩
    · rintro ⟨i, hi, e⟩
      rcases (by omega : i < k ∨ i = k) with q | rfl
      · exact Or.inl ⟨i, q, e⟩
      · exact Or.inr e
theorem adF_nodup (f : Nat → Int) : ∀ k, (adF f k).Nodup
  | 0 => List.nodup_nil
  | k + 1 => by unfold adF; exact addS_nodup (adF_nodup f k) _
theorem insF_nodup (f : Nat → Int) (k : Nat) : (insF f k).Nodup := (insF_ss f k).imp fun {a b} h e => by subst e; rw [lt_irrefl] at h; cases h
theorem ins_ad (f : Nat → Int) : (insF f 8).length = (adF f 8).length := len_same (insF_nodup f 8) (adF_nodup f 8) fun x => (insF_mem f 8 x).trans (adF_mem f 8 x).symm
/-- The same, told by which forms are the board itself. -/
def ndB (s : Nat → Bool) : Nat → Nat
  | 0 => 0
  | k + 1 => if (List.range k).any (fun j => s (behN k (backN j))) = true then ndB s k else ndB s k + 1
def cnB (s : Nat → Bool) : Nat → Nat
  | 0 => 0
  | k + 1 => if s k = true then cnB s k + 1 else cnB s k
theorem adF_cnt (f : Nat → Int) : ∀ k, k ≤ 8 → (adF f k).length = ndB (isSym f) k
  | 0, _ => rfl
  | k + 1, hk => by
    have ih := adF_cnt f k (by omega)
    have key : cl 16 (formF f k) ∈ adF f k ↔ (List.range k).any (fun j => isSym f (behN k (backN j))) = true := by
      rw [adF_mem, List.any_eq_true]
      constructor
      · rintro ⟨i, hi, e⟩; exact ⟨i, List.mem_range.2 hi, (form_same (by omega) (by omega)).1 e⟩
      · rintro ⟨i, hi, e⟩; exact ⟨i, List.mem_range.1 hi, (form_same (by omega) (by have := List.mem_range.1 hi; omega)).2 e⟩
    unfold adF addS ndB
    by_cases h : cl 16 (formF f k) ∈ adF f k
    · rw [if_pos h, if_pos (key.1 h)]; exact ih
    · rw [if_neg h, if_neg (fun q => h (key.2 q)), List.length_append, ih]; rfl
theorem sym_cnt (f : Nat → Int) : ∀ k, (symL f k).length = cnB (isSym f) k
  | 0 => rfl
  | k + 1 => by
    have ih := sym_cnt f k
    unfold symL cnB
    split
    · rw [List.length_append, ih]; rfl
    · exact ih
def tb8 (b1 b2 b3 b4 b5 b6 b7 : Bool) : Nat → Bool := fun i => if i = 0 then true else if i = 1 then b1 else if i = 2 then b2 else if i = 3 then b3 else if i = 4 then b4 else if i = 5 then b5 else if i = 6 then b6 else b7
/-- A number for each pair: closed under what follows what. -/
def clo8 (s : Nat → Bool) : Bool := (List.range 8).all fun i => (List.range 8).all fun j => !(s i && s j) || s (behN i j)
set_option maxRecDepth 100000 in
set_option maxHeartbeats 4000000 in
theorem orb8 : ∀ b1 b2 b3 b4 b5 b6 b7 : Bool, clo8 (tb8 b1 b2 b3 b4 b5 b6 b7) = true → ndB (tb8 b1 b2 b3 b4 b5 b6 b7) 8 * cnB (tb8 b1 b2 b3 b4 b5 b6 b7) 8 = 8 := by decide
theorem ndB_congr {s t : Nat → Bool} (h : ∀ i, i < 8 → s i = t i) : ∀ k, k ≤ 8 → ndB s k = ndB t k
  | 0, _ => rfl
  | k + 1, hk => by
    have e : (List.range k).any (fun j => s (behN k (backN j))) = (List.range k).any (fun j => t (behN k (backN j))) := by
      rw [Bool.eq_iff_iff, List.any_eq_true, List.any_eq_true]
      constructor <;> rintro ⟨j, hj, e⟩ <;> refine ⟨j, hj, ?_⟩ <;> have h2 := List.mem_range.1 hj <;> have h3 := h _ (beh_assoc k (by omega) j (by omega)).2.1
      · rw [← h3]; exact e
      · rw [h3]; exact e
    unfold ndB
    rw [e, ndB_congr h k (by omega)]
theorem cnB_congr {s t : Nat → Bool} (h : ∀ i, i < 8 → s i = t i) : ∀ k, k ≤ 8 → cnB s k = cnB t k
  | 0, _ => rfl
  | k + 1, hk => by unfold cnB; rw [h k (by omega), cnB_congr h k (by omega)]
theorem eight (f : Nat → Int) : (insF f 8).length * (symL f 8).length = 8 := by
  rw [ins_ad, adF_cnt f 8 (Nat.le_refl _), sym_cnt]
  have h0 : isSym f 0 = true := sameB_iff.2 fun _ _ => rfl
  have e : ∀ i, i < 8 → isSym f i = tb8 (isSym f 1) (isSym f 2) (isSym f 3) (isSym f 4) (isSym f 5) (isSym f 6) (isSym f 7) i := fun i hi => by
    rcases (by omega : i = 0 ∨ i = 1 ∨ i = 2 ∨ i = 3 ∨ i = 4 ∨ i = 5 ∨ i = 6 ∨ i = 7) with rfl | rfl | rfl | rfl | rfl | rfl | rfl | rfl
    · exact h0
    all_goals rfl
  rw [ndB_congr e 8 (Nat.le_refl _), cnB_congr e 8 (Nat.le_refl _)]
  refine orb8 _ _ _ _ _ _ _ ?_
  unfold clo8
  rw [List.all_eq_true]
  intro i hi
  rw [List.all_eq_true]
  intro j hj
  have hi := List.mem_range.1 hi
  have hj := List.mem_range.1 hj
  rw [← e i hi, ← e j hj, ← e _ (beh_lt i hi j hj)]
  cases h1 : isSym f i <;> cases h2 : isSym f j <;> simp
  exact sym_mul hi hj h1 h2
theorem div_eight (a b : Nat) (hb : 0 < b) (h : a * b = 8) : (8 : Int).tdiv (b : Int) = (a : Int) := by
  have e : (8 : Int) = (a : Int) * (b : Int) := by rw [← Int.natCast_mul, h]; rfl
  rw [e]; exact Int.mul_tdiv_cancel _ (by omega)
theorem cfm_len {f : Nat → Int} (h : Vd f) : cfmR f = ((insF f 8).length : Int) := by
  unfold cfmR
  rw [if_pos h]
  exact div_eight _ _ (symL_pos f 8 (by omega)) (eight f)

/-! The first form is the least one. -/
theorem lessB_irrefl (f : Nat → Int) : lessB f f = false := lessB_none fun _ _ => rfl
theorem lessB_trans {f g h : Nat → Int} (h1 : lessB f g = true) (h2 : lessB g h = true) : lessB f h = true := decide_eq_true (lessN_trans (of_decide_eq_true h1) (of_decide_eq_true h2))
theorem lessB_congr {f g f' g' : Nat → Int} (h1 : ∀ i, i < 16 → f i = f' i) (h2 : ∀ i, i < 16 → g i = g' i) : lessB f g = lessB f' g' := by
  unfold lessB; rw [Bool.eq_iff_iff, decide_eq_true_iff, decide_eq_true_iff]; exact lessN_congr h1 h2
theorem lessB_tot (f g : Nat → Int) : (∀ i, i < 16 → f i = g i) ∨ lessB f g = true ∨ lessB g f = true := by
  rcases lessN_total (f := f) (g := g) 16 with h | h | h
  · exact Or.inl h
  · exact Or.inr (Or.inl (decide_eq_true h))
  · exact Or.inr (Or.inr (decide_eq_true h))
theorem fst_both (f : Nat → Int) : ∀ n, (∀ m, m < n → lessB (formF f m) (formF f (fstN f n)) = false) ∧ ∀ m, m < fstN f n → lessB (formF f (fstN f n)) (formF f m) = true
  | 0 => ⟨fun m h => by omega, fun m h => by simp [fstN] at h⟩
  | n + 1 => by
    obtain ⟨h1, h2⟩ := fst_both f n
    cases n with
    | zero =>
      rw [fst_one]
      refine ⟨fun m hm => ?_, fun m hm => by omega⟩
      obtain rfl : m = 0 := by omega
      exact lessB_irrefl _
    | succ k =>
      cases hl : lessB (formF f (k + 1)) (formF f (fstN f (k + 1))) with
      | true =>
        rw [fst_yes hl]
        refine ⟨fun m hm => ?_, fun m hm => ?_⟩
        · rcases (by omega : m < k + 1 ∨ m = k + 1) with q | rfl
          · cases hq : lessB (formF f m) (formF f (k + 1)) with
            | false => rfl
            | true => have := h1 m q; rw [lessB_trans hq hl] at this; cases this
          · exact lessB_irrefl _
        · rcases lessB_tot (formF f (fstN f (k + 1))) (formF f m) with q | q | q
          · rw [← lessB_congr (fun _ _ => rfl) q]; exact hl
          · exact lessB_trans hl q
          · have := h1 m hm; rw [q] at this; cases this
      | false =>
        rw [fst_not hl]
        refine ⟨fun m hm => ?_, h2⟩
        rcases (by omega : m < k + 1 ∨ m = k + 1) with q | rfl
        · exact h1 m q
        · exact hl
theorem fst_min (f : Nat → Int) {m : Nat} (h : m < 8) : lessB (formF f m) (fstF f) = false := (fst_both f 8).1 m h
theorem fst_least (f : Nat → Int) {m : Nat} (h : m < fstN f 8) : sameB (formF f m) (fstF f) = false := by
  have h1 := (fst_both f 8).2 m h
  cases hs : sameB (formF f m) (fstF f) with
  | false => rfl
  | true =>
    have : lessB (fstF f) (formF f m) = lessB (fstF f) (fstF f) := lessB_congr (fun _ _ => rfl) (sameB_iff.1 hs)
    rw [lessB_irrefl] at this
    unfold fstF at this
    rw [h1] at this; cases this
theorem lt_less (f g : Nat → Int) : lt 16 (cl 16 f) (cl 16 g) = lessB f g := lt_cl 16 f g
/-- The list of all forms begins with the first one. -/
theorem ins_first (f : Nat → Int) : (insF f 8)[0]? = some (cl 16 (fstF f)) := by
  have hm : cl 16 (fstF f) ∈ insF f 8 := (insF_mem f 8 _).2 ⟨fstN f 8, fst_lt f 8 (by omega), rfl⟩
  obtain ⟨i, hi, e⟩ := List.getElem_of_mem hm
  cases i with
  | zero => rw [List.getElem?_eq_getElem hi, e]
  | succ i =>
    have h0 : 0 < (insF f 8).length := by omega
    have hp := List.pairwise_iff_getElem.1 (insF_ss f 8) 0 (i + 1) h0 hi (by omega)
    obtain ⟨j, hj, ej⟩ := (insF_mem f 8 _).1 (List.getElem_mem h0)
    rw [e, ej, lt_less, fst_min f hj] at hp
    cases hp
/-- All forms have one first form. -/
theorem fst_form (f : Nat → Int) {m : Nat} (hm : m < 8) : cl 16 (fstF (formF f m)) = cl 16 (fstF f) := by
  have e1 : ∀ i, i < 8 → cl 16 (formF (formF f m) i) = cl 16 (formF f (behN m i)) := fun i hi => cl_inj.2 (form_beh f hm hi)
  have hi := fst_lt (formF f m) 8 (by omega)
  have hj := fst_lt f 8 (by omega)
  refine lt_total (cl_len _ _) (cl_len _ _) ?_ ?_
  · show lt 16 (cl 16 (formF (formF f m) (fstN (formF f m) 8))) (cl 16 (fstF f)) = false
    rw [e1 _ hi, lt_less]
    exact fst_min f (beh_lt m hm _ hi)
  · obtain ⟨_, _, e2, hl⟩ := beh_assoc (fstN f 8) hj m hm
    have : cl 16 (fstF f) = cl 16 (formF (formF f m) (behN (backN m) (fstN f 8))) := by rw [e1 _ hl, e2]; rfl
    rw [this, lt_less]
    exact fst_min (formF f m) hl
theorem fstN_congr {f g : Nat → Int} (h : ∀ i, i < 16 → f i = g i) : ∀ n, fstN f n = fstN g n
  | 0 => rfl
  | n + 1 => by
    unfold fstN
    rw [fstN_congr h n, lessB_congr (form_congr n h) (form_congr (fstN g n) h)]
theorem fst_congr {f g : Nat → Int} (h : ∀ i, i < 16 → f i = g i) : cl 16 (fstF f) = cl 16 (fstF g) := by
  unfold fstF
  rw [fstN_congr h 8]
  exact cl_inj.2 (form_congr _ h)

/-! Distinct moves are as many for all forms. -/
theorem dm_mem (f : Nat → Int) (M : List Int) : ∀ k x, x ∈ (dm f M k).1 ↔ ∃ i d, i < k ∧ M[i]? = some d ∧ x = ffs f d
  | 0, x => by simp [dm]
  | k + 1, x => by
    have ih := dm_mem f M k x
    cases h : M[k]? with
    | none =>
      have e : dm f M (k + 1) = dm f M k := by simp only [dm, h]
      rw [e, ih]
      constructor
      · rintro ⟨i, d, hi, e⟩; exact ⟨i, d, by omega, e⟩
      · rintro ⟨i, d, hi, e1, e2⟩
        rcases (by omega : i < k ∨ i = k) with q | rfl
        · exact ⟨i, d, q, e1, e2⟩
        · rw [h] at e1; cases e1
    | some d =>
      by_cases hd : ffs f d ∈ (dm f M k).1
      · rw [dm_yes h hd, ih]
        constructor
        · rintro ⟨i, d, hi, e⟩; exact ⟨i, d, by omega, e⟩
        · rintro ⟨i, d2, hi, e1, e2⟩
          rcases (by omega : i < k ∨ i = k) with q | rfl
          · exact ⟨i, d2, q, e1, e2⟩
          · rw [h] at e1; cases e1
            rw [e2]; exact (dm_mem f M i _).1 hd
      · rw [dm_no h hd, List.mem_append, ih]
        constructor
        · rintro (⟨i, d, hi, e⟩ | e)
          · exact ⟨i, d, by omega, e⟩
          · exact ⟨k, d, by omega, h, by simpa using e⟩
        · rintro ⟨i, d2, hi, e1, e2⟩
          rcases (by omega : i < k ∨ i = k) with q | rfl
          · exact Or.inl ⟨i, d2, q, e1, e2⟩
          · rw [h] at e1; cases e1; exact Or.inr (by simpa using e2)
theorem dm_nodup (f : Nat → Int) (M : List Int) : ∀ k, (dm f M k).1.Nodup
  | 0 => List.nodup_nil
  | k + 1 => by
    have ih := dm_nodup f M k
    cases h : M[k]? with
    | none =>
      have e : dm f M (k + 1) = dm f M k := by simp only [dm, h]
      rw [e]; exact ih
    | some d =>
      by_cases hd : ffs f d ∈ (dm f M k).1
      · rw [dm_yes h hd]; exact ih
      · rw [dm_no h hd, List.nodup_append]
        refine ⟨ih, by simp, fun a ha c hc e => ?_⟩
        obtain rfl : c = _ := by simpa using hc
        subst e; exact hd ha
theorem dm_all (f : Nat → Int) (x : List Int) : x ∈ (dm f (movL f 4) (movL f 4).length).1 ↔ ∃ j, j < 4 ∧ isMv f j = true ∧ x = cl 16 (fstF (slideB f j)) := by
  rw [dm_mem]
  constructor
  · rintro ⟨i, d, _, h1, h2⟩
    obtain ⟨j, hj, rfl, hm⟩ := (mem_mov f d 4).1 (List.mem_of_getElem? h1)
    exact ⟨j, hj, hm, h2⟩
  · rintro ⟨j, hj, hm, e⟩
    obtain ⟨i, hi⟩ := List.getElem?_of_mem ((mem_mov f (j : Int) 4).2 ⟨j, hj, rfl, hm⟩)
    exact ⟨i, _, (List.getElem?_eq_some_iff.1 hi).1, hi, e⟩
theorem side_onto : ∀ m, m < 8 → ∀ j, j < 4 → ∃ i, i < 4 ∧ sideN m i = j := by decide
theorem mv_form (f : Nat → Int) {m d : Nat} (hm : m < 8) (hd : d < 4) : isMv (formF f m) (sideN m d) = isMv f d := by
  unfold isMv
  congr 1
  rw [Bool.eq_iff_iff, sameB_iff, sameB_iff]
  have hs := slide_form f hm hd
  constructor
  · intro h p hp
    have h2 := form_back (slideB f d) hm p hp
    have h3 := form_back f hm p hp
    rw [← h2, ← h3]
    show formF (slideB f d) m (plc (backN m) p) = formF f m (plc (backN m) p)
    rw [← hs _ (plc_lt _ hp)]
    exact h _ (plc_lt _ hp)
  · intro h p hp
    rw [hs p hp]
    exact h _ (plc_lt m hp)
theorem dm_form (f : Nat → Int) {m : Nat} (hm : m < 8) : (dm (formF f m) (movL (formF f m) 4) (movL (formF f m) 4).length).2.length = (dm f (movL f 4) (movL f 4).length).2.length := by
  rw [(dm_le _ _ _).2, (dm_le _ _ _).2]
  refine len_same (dm_nodup _ _ _) (dm_nodup _ _ _) fun x => ?_
  rw [dm_all, dm_all]
  have key : ∀ d, d < 4 → cl 16 (fstF (slideB (formF f m) (sideN m d))) = cl 16 (fstF (slideB f d)) := fun d hd => (fst_congr (slide_form f hm hd)).trans (fst_form _ hm)
  constructor
  · rintro ⟨j, hj, h1, h2⟩
    obtain ⟨i, hi, rfl⟩ := side_onto m hm j hj
    rw [mv_form f hm hi] at h1
    rw [key i hi] at h2
    exact ⟨i, hi, h1, h2⟩
  · rintro ⟨i, hi, h1, h2⟩
    refine ⟨sideN m i, side_lt m hm i hi, by rw [mv_form f hm hi]; exact h1, by rw [key i hi]; exact h2⟩
theorem dm_none (f : Nat → Int) : (dm f (movL f 4) (movL f 4).length).2.length = 0 ↔ (movL f 4).length = 0 := by
  rw [(dm_le _ _ _).2]
  constructor
  · intro h
    have h2 := List.length_eq_zero_iff.1 h
    rcases Nat.eq_zero_or_pos (movL f 4).length with q | q
    · exact q
    · obtain ⟨d, hd⟩ := List.exists_mem_of_length_pos q
      obtain ⟨j, hj, _, hm⟩ := (mem_mov f d 4).1 hd
      have := (dm_all f _).2 ⟨j, hj, hm, rfl⟩
      rw [h2] at this; cases this
  · intro h
    have := (dm_le f (movL f 4) (movL f 4).length).1
    omega
theorem sym_mem (f : Nat → Int) (x : Int) : ∀ n, x ∈ symL f n ↔ ∃ k, k < n ∧ isSym f k = true ∧ x = (k : Int)
  | 0 => by simp [symL]
  | n + 1 => by
    have ih := sym_mem f x n
    cases h : isSym f n with
    | true =>
      rw [sym_yes h, List.mem_append, ih]
      constructor
      · rintro (⟨k, hk, e⟩ | e)
        · exact ⟨k, by omega, e⟩
        · exact ⟨n, by omega, h, by simpa using e⟩
      · rintro ⟨k, hk, e1, e2⟩
        rcases (by omega : k < n ∨ k = n) with q | rfl
        · exact Or.inl ⟨k, q, e1, e2⟩
        · exact Or.inr (by simpa using e2)
    | false =>
      rw [sym_not h, ih]
      constructor
      · rintro ⟨k, hk, e⟩; exact ⟨k, by omega, e⟩
      · rintro ⟨k, hk, e1, e2⟩
        rcases (by omega : k < n ∨ k = n) with q | rfl
        · exact ⟨k, q, e1, e2⟩
        · rw [h] at e1; cases e1
end Go.Proofs.Ytpiegllffkjneaa.Plain
namespace Go.Proofs.Ytpiegllffkjneaa
open Plain
theorem has_sym (f : Nat → Int) {m : Nat} (hm : m < 8) : hasI (fun i => (symL f 8).getD i 0) (symL f 8).length (m : Int) = isSym f m := by
  cases h : isSym f m with
  | true =>
    obtain ⟨i, hi, he⟩ := List.getElem_of_mem ((sym_mem f (m : Int) 8).2 ⟨m, hm, h, rfl⟩)
    exact hasI_yes hi (by show (symL f 8).getD i 0 = _; rw [List.getD_eq_getElem?_getD, List.getElem?_eq_getElem hi]; exact he)
  | false =>
    refine hasI_no fun j hj e => ?_
    have e2 : (symL f 8).getD j 0 = (m : Int) := e
    rw [List.getD_eq_getElem?_getD, List.getElem?_eq_getElem hj] at e2
    have hmm : (m : Int) ∈ symL f 8 := by
      have := List.getElem_mem hj
      rw [show (symL f 8)[j] = (m : Int) from e2] at this
      exact this
    obtain ⟨l, _, b, c⟩ := (sym_mem f (m : Int) 8).1 hmm
    have : l = m := by omega
    subst this
    rw [h] at b; cases b
end Go.Proofs.Ytpiegllffkjneaa
