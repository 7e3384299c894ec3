/-
  Plain facts: a list of slides that is made again and again leads back to a board within 17 * 65536 * 720721 times. No program stands in this text.
-/
import Derived.Test.YtknjmkapabjolaaCyclePlain
set_option linter.unusedVariables false
set_option linter.unusedSimpArgs false
namespace Go.Proofs.Ytknjmkapabjolaa.Plain

/-- The first k cells of a line that are not empty. -/
def nzL (z : Nat → Bool) (k : Nat) : List Nat := (List.range k).filter z
def ptL (z : Nat → Bool) : List Nat := nzL z 4 ++ nzL (fun i => !z i) 4
/-- From where the cell number k of a line comes. -/
def sgz (z : Nat → Bool) (k : Nat) : Nat := (ptL z).getD k 0
def bq (a b c d : Bool) : Nat → Bool := fun i => if i = 0 then a else if i = 1 then b else if i = 2 then c else d
theorem nzL_congr {z y : Nat → Bool} {k : Nat} (h : ∀ i, i < k → z i = y i) : nzL z k = nzL y k :=
  List.filter_congr fun i hi => h i (List.mem_range.1 hi)
theorem sgz_congr {z y : Nat → Bool} (h : ∀ i, i < 4 → z i = y i) (k : Nat) : sgz z k = sgz y k := by
  unfold sgz ptL
  rw [nzL_congr h, nzL_congr (z := fun i => !z i) (y := fun i => !y i) fun i hi => by rw [h i hi]]
theorem bq_all (z : Nat → Bool) : ∀ i, i < 4 → z i = bq (z 0) (z 1) (z 2) (z 3) i := fun i hi => by
  obtain rfl | rfl | rfl | rfl : i = 0 ∨ i = 1 ∨ i = 2 ∨ i = 3 := by omega
  all_goals rfl
theorem sgz_all : ∀ a b c d : Bool, (∀ k, k < 4 → sgz (bq a b c d) k < 4) ∧ ∀ k, k < 4 → ∀ l, l < 4 → sgz (bq a b c d) k = sgz (bq a b c d) l → k = l := by decide
theorem sgz_lt (z : Nat → Bool) {k : Nat} (hk : k < 4) : sgz z k < 4 := by rw [sgz_congr (bq_all z)]; exact (sgz_all _ _ _ _).1 k hk
theorem sgz_inj (z : Nat → Bool) {k l : Nat} (hk : k < 4) (hl : l < 4) (h : sgz z k = sgz z l) : k = l := by
  rw [sgz_congr (bq_all z) k, sgz_congr (bq_all z) l] at h; exact (sgz_all _ _ _ _).2 k hk l hl h
theorem nzL_succ (z : Nat → Bool) (k : Nat) : nzL z (k + 1) = if z k = true then nzL z k ++ [k] else nzL z k := by
  unfold nzL
  rw [List.range_succ, List.filter_append]
  cases h : z k <;> simp [h]
/-- A line without a merger. -/
theorem slid_quiet {r : Nat → Int} (hr : VdRow r) : ∀ k, k ≤ 4 → (slid r k).mg = 0 → (slid r k).n = (nzL (zf r) k).length ∧ ∀ j, j < (slid r k).n → (slid r k).row j = r ((nzL (zf r) k).getD j 0)
  | 0, _, _ => ⟨rfl, fun j hj => by cases hj⟩
  | k + 1, hk, hm => by
    have ok := slid_ok hr k (by omega)
    have hs : slid r (k + 1) = slidStep (slid r k) (r k) := rfl
    rw [hs] at hm ⊢
    unfold slidStep at hm ⊢
    by_cases h0 : r k = 0
    · have hz : zf r k = false := by simp [zf, h0]
      rw [if_pos h0] at hm ⊢
      rw [nzL_succ, if_neg (by rw [hz]; decide)]
      exact slid_quiet hr k (by omega) hm
    · have hz : zf r k = true := by simp [zf, h0]
      rw [if_neg h0] at hm ⊢
      rw [nzL_succ, if_pos hz]
      split at hm
      · have := ok.mg0
        simp only at hm
        omega
      · rename_i hne
        rw [if_neg hne]
        obtain ⟨e1, e2⟩ := slid_quiet hr k (by omega) hm
        refine ⟨by simp [e1], fun j hj => ?_⟩
        simp only at hj ⊢
        by_cases hjn : j = (slid r k).n
        · subst hjn
          rw [upd_same, e1, List.getD_eq_getElem?_getD, List.getElem?_append_right (Nat.le_refl _)]
          simp
        · rw [upd_other _ _ hjn, e2 j (by omega), List.getD_eq_getElem?_getD, List.getD_eq_getElem?_getD, List.getElem?_append_left (by omega)]
theorem nz_len (z : Nat → Bool) : ∀ k, (nzL z k).length + (nzL (fun i => !z i) k).length = k
  | 0 => rfl
  | k + 1 => by
    have := nz_len z k
    rw [nzL_succ, nzL_succ]
    cases h : z k <;> simp [h] <;> omega
theorem row_quiet {r : Nat → Int} (hr : VdRow r) (hm : (slid r 4).mg = 0) {k : Nat} (hk : k < 4) : (slid r 4).row k = r (sgz (zf r) k) := by
  obtain ⟨e1, e2⟩ := slid_quiet hr 4 (Nat.le_refl _) hm
  have hl := nz_len (zf r) 4
  unfold sgz ptL
  by_cases h : k < (slid r 4).n
  · rw [e2 k h, List.getD_eq_getElem?_getD, List.getD_eq_getElem?_getD, List.getElem?_append_left (by omega)]
  · rw [(slid_ok hr 4 (Nat.le_refl _)).rest k (by omega), List.getD_eq_getElem?_getD, List.getElem?_append_right (by omega)]
    have hlt : k - (nzL (zf r) 4).length < (nzL (fun i => !zf r i) 4).length := by omega
    rw [List.getElem?_eq_getElem hlt]
    have hmem := List.getElem_mem hlt
    generalize (nzL (fun i => !zf r i) 4)[k - (nzL (zf r) 4).length] = x at hmem ⊢
    have hz := (List.mem_filter.1 hmem).2
    simp only [zf, Bool.not_not, beq_iff_eq] at hz
    exact hz.symm
/-- From where the cell number j comes in a slide. -/
def tauD (d : Nat) (z : Nat → Bool) (j : Nat) : Nat := pos d (lineOf d j) (sgz (fun k => z (pos d (lineOf d j) k)) (placeOf d j))
theorem tauD_perm (d : Nat) : Perm (tauD d) where
  lt z j hj := pos_lt (lineOf_lt hj) (sgz_lt _ (placeOf_lt hj))
  inj z j l hj hl e := by
    have h1 : lineOf d (tauD d z j) = lineOf d j := lineOf_pos (lineOf_lt hj) (sgz_lt _ (placeOf_lt hj))
    have h2 : lineOf d (tauD d z l) = lineOf d l := lineOf_pos (lineOf_lt hl) (sgz_lt _ (placeOf_lt hl))
    have h3 : placeOf d (tauD d z j) = sgz (fun k => z (pos d (lineOf d j) k)) (placeOf d j) := placeOf_pos (lineOf_lt hj) (sgz_lt _ (placeOf_lt hj))
    have h4 : placeOf d (tauD d z l) = sgz (fun k => z (pos d (lineOf d l) k)) (placeOf d l) := placeOf_pos (lineOf_lt hl) (sgz_lt _ (placeOf_lt hl))
    rw [e] at h1 h3
    have el : lineOf d j = lineOf d l := h1.symm.trans h2
    have es := h3.symm.trans h4
    rw [el] at es
    have ep := sgz_inj _ (placeOf_lt hj) (placeOf_lt hl) es
    rw [← pos_of (d := d) hj, ← pos_of (d := d) hl, el, ep]
  con z y h j hj := by
    unfold tauD
    rw [sgz_congr fun k hk => h _ (pos_lt (lineOf_lt hj) hk)]
theorem slide_quiet {f : Nat → Int} (hf : Vd f) {d : Nat} (h : slideM f d 4 = 0) : Rel (tauD d) f (slideB f d) := fun j hj =>
  row_quiet (lineF_vd hf d (lineOf_lt hj)) (lines_mg hf h _ (lineOf_lt hj)) (placeOf_lt hj)
def tauL (h : Nat → Int) : Nat → (Nat → Bool) → Nat → Nat
  | 0 => fun _ j => j
  | k + 1 => cmp (tauL h k) (tauD (h k).toNat)
theorem tauL_perm (h : Nat → Int) : ∀ k, Perm (tauL h k)
  | 0 => perm_id
  | k + 1 => (tauL_perm h k).cmp (tauD_perm _)
theorem md_quiet {f : Nat → Int} (hf : Vd f) (h : Nat → Int) : ∀ k, (∀ i, i < k → slideM (mdB f h i) (h i).toNat 4 = 0) → Rel (tauL h k) f (mdB f h k)
  | 0, _ => fun _ _ => rfl
  | k + 1, q => Rel.cmp (tauD_perm _) (md_quiet hf h k fun i hi => q i (by omega)) (slide_quiet (mdB_vd hf h k) (q k (by omega)))
theorem md_emp {f : Nat → Int} (hf : Vd f) {h : Nat → Int} {n : Nat} (hs : Sides h n) : ∀ k, k ≤ n → empN f 16 ≤ empN (mdB f h k) 16 ∧ ((∃ i, i < k ∧ slideM (mdB f h i) (h i).toNat 4 ≠ 0) → empN f 16 < empN (mdB f h k) 16)
  | 0, _ => ⟨Nat.le_refl _, fun ⟨i, hi, _⟩ => by omega⟩
  | k + 1, hk => by
    obtain ⟨i1, i2⟩ := md_emp hf hs k (by omega)
    have hd := hs k (by omega)
    have he := emp_slide (mdB_vd hf h k) (d := (h k).toNat) (by omega)
    have hb := (slideM_bd (mdB_vd hf h k) (h k).toNat 4 (Nat.le_refl _)).1
    have e : mdB f h (k + 1) = slideB (mdB f h k) (h k).toNat := rfl
    rw [e]
    refine ⟨by omega, fun ⟨i, hi, hm⟩ => ?_⟩
    by_cases hik : i = k
    · subst hik; omega
    · have := i2 ⟨i, by omega, hm⟩; omega
/-- The boards behind the list again and again. -/
def cyB (f h : Nat → Int) (n : Nat) : Nat → Nat → Int
  | 0 => f
  | k + 1 => mdB (cyB f h n k) h n
theorem cyB_vd {f : Nat → Int} (hf : Vd f) (h : Nat → Int) (n : Nat) : ∀ k, Vd (cyB f h n k)
  | 0 => hf
  | k + 1 => mdB_vd (cyB_vd hf h n k) h n
theorem cyB_emp {f : Nat → Int} (hf : Vd f) {h : Nat → Int} {n : Nat} (hs : Sides h n) (a : Nat) : ∀ k, empN (cyB f h n a) 16 ≤ empN (cyB f h n (a + k)) 16
  | 0 => Nat.le_refl _
  | k + 1 => Nat.le_trans (cyB_emp hf hs a k) (md_emp (cyB_vd hf h n (a + k)) hs n (Nat.le_refl _)).1
theorem cycle_from {f : Nat → Int} (hf : Vd f) {h : Nat → Int} {n : Nat} (hs : Sides h n) (C : Nat)
    (mb : ∀ n0, (∀ k, k < C → Rel (tauL h n) (cyB f h n (n0 + k)) (cyB f h n (n0 + k + 1))) → ∃ i j, n0 ≤ i ∧ i < j ∧ j ≤ n0 + C ∧ ∀ q, q < 16 → cyB f h n i q = cyB f h n j q) :
    ∀ e n0, 16 - empN (cyB f h n n0) 16 ≤ e → ∃ i j, n0 ≤ i ∧ i < j ∧ j ≤ n0 + (e + 1) * C ∧ ∀ q, q < 16 → cyB f h n i q = cyB f h n j q := by
  intro e
  induction e with
  | zero =>
    intro n0 he
    obtain ⟨i, j, h1, h2, h3, h4⟩ := mb n0 fun k _ => by
      apply md_quiet (cyB_vd hf h n _) h n
      intro i hi
      apply Classical.byContradiction
      intro hm
      have a1 := (md_emp (cyB_vd hf h n (n0 + k)) hs n (Nat.le_refl _)).2 ⟨i, hi, hm⟩
      have a2 := cyB_emp hf hs n0 k
      have a3 := empN_le (mdB (cyB f h n (n0 + k)) h n) 16
      omega
    exact ⟨i, j, h1, h2, by omega, h4⟩
  | succ e ih =>
    intro n0 he
    have hC : (e + 1 + 1) * C = (e + 1) * C + C := Nat.succ_mul _ _
    rw [hC]
    by_cases hq : ∀ k, k < C → ∀ i, i < n → slideM (mdB (cyB f h n (n0 + k)) h i) (h i).toNat 4 = 0
    · obtain ⟨i, j, h1, h2, h3, h4⟩ := mb n0 fun k hk => md_quiet (cyB_vd hf h n _) h n (hq k hk)
      exact ⟨i, j, h1, h2, by omega, h4⟩
    · obtain ⟨k, hk⟩ := Classical.not_forall.1 hq
      obtain ⟨hk, hi⟩ := Classical.not_imp.1 hk
      obtain ⟨i, hi⟩ := Classical.not_forall.1 hi
      obtain ⟨hi, hm⟩ := Classical.not_imp.1 hi
      have a1 := (md_emp (cyB_vd hf h n (n0 + k)) hs n (Nat.le_refl _)).2 ⟨i, hi, hm⟩
      have a2 := cyB_emp hf hs n0 k
      have a3 := empN_le (mdB (cyB f h n (n0 + k)) h n) 16
      obtain ⟨i2, j2, h1, h2, h3, h4⟩ := ih (n0 + k + 1) (by show 16 - empN (mdB (cyB f h n (n0 + k)) h n) 16 ≤ e; omega)
      generalize (e + 1) * C = X at h3 ⊢
      exact ⟨i2, j2, by omega, h2, by omega, h4⟩
/-- Some board comes back soon. -/
theorem cycle_bound {f : Nat → Int} (hf : Vd f) {h : Nat → Int} {n : Nat} (hs : Sides h n) : ∃ i j, i < j ∧ j ≤ 802967000000 ∧ ∀ q, q < 16 → cyB f h n i q = cyB f h n j q := by
  obtain ⟨i, j, _, h2, h3, h4⟩ := cycle_from hf hs (65536 * 720721) (fun n0 h => moved_back (tauL_perm _ n) _ n0 h) 16 0 (by omega)
  have e : 0 + (16 + 1) * (65536 * 720721) ≤ 802967000000 := by decide
  exact ⟨i, j, h2, Nat.le_trans h3 e, h4⟩
end Go.Proofs.Ytknjmkapabjolaa.Plain
