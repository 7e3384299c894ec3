/-
  Plain facts on rows of chapter 4: what they slide to, flush rows, settled rows, rows from their ends, the most score, numbers of rows. No program stands in this text.
-/
import Derived.Test.YtfikbbhlenopfaaSlideFacts
import Derived.Test.YtfikbbhlenopfaaEqPlain
namespace Go.Proofs.Ytfikbbhlenopfaa.Plain
set_option linter.unusedSimpArgs false
instance (f : Nat → Int) : Decidable (VdRow f) := by unfold VdRow; infer_instance
def rwO (f : Nat → Int) : Bool := decide (VdRow f)
theorem rwO_yes {f : Nat → Int} (h : VdRow f) : rwO f = true := by simp [rwO, h]
theorem rwO_no {f : Nat → Int} (h : ¬ VdRow f) : rwO f = false := by simp [rwO, h]
theorem vdRow_congr {f g : Nat → Int} (h : ∀ i, i < 4 → f i = g i) (hf : VdRow f) : VdRow g := fun i hi => by rw [← h i hi]; exact hf i hi
/-- The board whose first row is f, without other tiles. -/
def topF (f : Nat → Int) : Nat → Int := fun j => if j < 4 then f j else 0
theorem topF_vd {f : Nat → Int} : Vd (topF f) ↔ VdRow f := by
  constructor
  · intro h i hi
    have := h i (by omega)
    unfold topF at this
    rwa [if_pos hi] at this
  · intro h i hi
    unfold topF
    split
    · exact h i (by omega)
    · omega
theorem slid_vd {f : Nat → Int} (h : VdRow f) : VdRow (slid f 4).row := fun j _ => ⟨(slid_ok h 4 (Nat.le_refl _)).row0 j, (slid_ok h 4 (Nat.le_refl _)).row1 j⟩
def rsR (f : Nat → Int) : Nat → Int := if VdRow f then (slid f 4).row else fun _ => 0
def rsS (f : Nat → Int) : Int := if VdRow f then (slid f 4).sc else 0
def rsM (f : Nat → Int) : Int := if VdRow f then (slid f 4).mg else 0
theorem rs_yes {f : Nat → Int} (h : VdRow f) : rwO f = true ∧ rsR f = (slid f 4).row ∧ rsS f = (slid f 4).sc ∧ rsM f = (slid f 4).mg := by simp [rwO, rsR, rsS, rsM, h]
theorem rs_no {f : Nat → Int} (h : ¬ VdRow f) : rwO f = false ∧ rsR f = (fun _ => 0) ∧ rsS f = 0 ∧ rsM f = 0 := by simp [rwO, rsR, rsS, rsM, h]

/-- No 0 comes before another number. -/
def FlP (f : Nat → Int) : Prop := ∀ k, 1 ≤ k → k < 4 → f k ≠ 0 → f (k - 1) ≠ 0
theorem flP_ne {f : Nat → Int} (h : FlP f) : ∀ k, k < 4 → f k ≠ 0 → ∀ j, j ≤ k → f j ≠ 0
  | 0, _, h0, j, hj => by rw [Nat.le_zero.1 hj]; exact h0
  | k + 1, hk, h0, j, hj => by
    rcases Nat.lt_or_ge j (k + 1) with hl | hg
    · exact flP_ne h k (by omega) (by have := h (k + 1) (by omega) hk h0; simpa using this) j (by omega)
    · rw [show j = k + 1 by omega]; exact h0
instance (f : Nat → Int) : Decidable (FlP f) := by
  refine decidable_of_iff (∀ k, k < 4 → 1 ≤ k → f k ≠ 0 → f (k - 1) ≠ 0) ⟨fun h k h1 h2 => h k h2 h1, fun h k h1 h2 => h k h2 h1⟩
def flR (f : Nat → Int) : Bool := decide (VdRow f ∧ FlP f)
theorem flR_yes {f : Nat → Int} (h : VdRow f) : flR f = decide (FlP f) := by simp [flR, h]
theorem flR_no {f : Nat → Int} (h : ¬ VdRow f) : flR f = false := by simp [flR, h]
/-- The tiles of a row side by side, and how many there are. -/
def fl (f : Nat → Int) : Nat → (Nat → Int) × Nat
  | 0 => (fun _ => 0, 0)
  | k + 1 => if f k = 0 then fl f k else (upd (fl f k).1 (fl f k).2 (f k), (fl f k).2 + 1)
theorem fl_zero {f : Nat → Int} {k : Nat} (h : f k = 0) : fl f (k + 1) = fl f k := by rw [fl, if_pos h]
theorem fl_tile {f : Nat → Int} {k : Nat} (h : f k ≠ 0) : fl f (k + 1) = (upd (fl f k).1 (fl f k).2 (f k), (fl f k).2 + 1) := by rw [fl, if_neg h]
theorem fl_le (f : Nat → Int) : ∀ k, (fl f k).2 ≤ k
  | 0 => Nat.le_refl _
  | k + 1 => by
    have := fl_le f k
    by_cases h : f k = 0
    · rw [fl_zero h]; omega
    · rw [fl_tile h]; show (fl f k).2 + 1 ≤ k + 1; omega
theorem fl_congr {f g : Nat → Int} : ∀ k, (∀ i, i < k → f i = g i) → fl f k = fl g k
  | 0, _ => rfl
  | k + 1, h => by
    rw [fl, fl, fl_congr k (fun i hi => h i (by omega)), h k (by omega)]
theorem fl_qd (a b c d : Int) : (∀ i, i < 4 → (fl (qd a b c d) 4).1 i = qd a b c d i) ↔ FlP (qd a b c d) := by
  by_cases za : a = 0 <;> by_cases zb : b = 0 <;> by_cases zc : c = 0 <;> by_cases zd : d = 0 <;>
  · constructor
    · intro h k h1 hk hn
      have e0 := h 0 (by omega)
      have e1 := h 1 (by omega)
      have e2 := h 2 (by omega)
      have e3 := h 3 (by omega)
      try simp [fl, qd, upd, za, zb, zc, zd, eq_comm] at e0 e1 e2 e3
      all_goals rcases (by omega : k = 1 ∨ k = 2 ∨ k = 3) with rfl | rfl | rfl <;> simp_all [qd]
    · intro h i hi
      have e1 := h 1 (by omega) (by omega)
      have e2 := h 2 (by omega) (by omega)
      have e3 := h 3 (by omega) (by omega)
      first
        | (simp [qd, za, zb, zc, zd] at e1 e2 e3; done)
        | (try simp [qd, za, zb, zc, zd] at e1 e2 e3
           rcases (by omega : i = 0 ∨ i = 1 ∨ i = 2 ∨ i = 3) with rfl | rfl | rfl | rfl <;> simp [fl, qd, upd, za, zb, zc, zd])
theorem flP_congr {f g : Nat → Int} (h : ∀ i, i < 4 → f i = g i) : FlP f → FlP g := fun hf k h1 h2 hn => by
  rw [← h (k - 1) (by omega)]; exact hf k h1 h2 (by rw [h k h2]; exact hn)
theorem fl_same (f : Nat → Int) : sameR (fl f 4).1 f = decide (FlP f) := by
  have e := qd_line f
  have h := fl_qd (f 0) (f 1) (f 2) (f 3)
  rw [← fl_congr 4 e] at h
  by_cases hp : FlP f
  · rw [decide_eq_true hp, sameR_iff]
    intro c hc
    rw [h.2 (flP_congr e hp) c hc, e c hc]
  · rw [decide_eq_false hp]
    refine Bool.eq_false_iff.2 fun hs => hp ?_
    rw [sameR_iff] at hs
    exact flP_congr (fun i hi => (e i hi).symm) (h.1 fun i hi => by rw [hs i hi, e i hi])

/-- A slide leaves a flush row. -/
theorem slid_flush {f : Nat → Int} (h : VdRow f) : FlP (slid f 4).row := fun k h1 hk hn => by
  have ho := slid_ok h 4 (Nat.le_refl _)
  have : k < (slid f 4).n := by
    rcases Nat.lt_or_ge k (slid f 4).n with a | a
    · exact a
    · exact absurd (ho.rest k a) hn
  exact ho.full (k - 1) (by omega)
theorem mg_mono {f : Nat → Int} : ∀ k, (slid f k).mg ≤ (slid f (k + 1)).mg := by
  intro k
  show _ ≤ (slidStep (slid f k) (f k)).mg
  unfold slidStep
  split
  · exact Int.le_refl _
  · split
    · show _ ≤ (slid f k).mg + 1; omega
    · exact Int.le_refl _
/-- A flush row that nothing merges of does not change. -/
theorem still {f : Nat → Int} (hv : VdRow f) (hf : FlP f) (h : (slid f 4).mg = 0) : ∀ i, i < 4 → (slid f 4).row i = f i := by
  have key : ∀ k, k ≤ 4 → (slid f k).mg = 0 → ((∀ j, j < k → f j ≠ 0) → (slid f k).n = k) ∧ ∀ j, (slid f k).row j = if j < k then f j else 0 := by
    intro k
    induction k with
    | zero => intro _ _; exact ⟨fun _ => rfl, fun j => by simp [slid, slid0]⟩
    | succ k ih =>
      intro hk hm
      have hmk : (slid f k).mg = 0 := by
        have := mg_mono (f := f) k
        have := (slid_ok hv k (by omega)).mg0
        omega
      obtain ⟨i1, i2⟩ := ih (by omega) hmk
      have hs : slid f (k + 1) = slidStep (slid f k) (f k) := rfl
      unfold slidStep at hs
      by_cases h0 : f k = 0
      · rw [if_pos h0] at hs
        rw [hs]
        refine ⟨fun hj => absurd h0 (hj k (by omega)), fun j => ?_⟩
        rw [i2]
        by_cases e : j = k
        · subst e; simp [h0]
        · by_cases hl : j < k
          · rw [if_pos hl, if_pos (by omega)]
          · rw [if_neg hl, if_neg (by omega)]
      · rw [if_neg h0] at hs
        have hall : ∀ j, j < k → f j ≠ 0 := fun j hj => flP_ne hf k (by omega) h0 j (by omega)
        have hn := i1 hall
        by_cases hc : f k = (slid f k).op ∧ f k < 17
        · rw [if_pos hc] at hs
          rw [hs] at hm
          simp only [] at hm
          omega
        · rw [if_neg hc] at hs
          rw [hs]
          refine ⟨fun _ => by show (slid f k).n + 1 = k + 1; omega, fun j => ?_⟩
          show upd (slid f k).row (slid f k).n (f k) j = _
          rw [hn]
          unfold upd
          by_cases e : j = k
          · subst e; simp
          · rw [if_neg e, i2]
            by_cases hl : j < k
            · rw [if_pos hl, if_pos (by omega)]
            · rw [if_neg hl, if_neg (by omega)]
  intro i hi
  rw [(key 4 (Nat.le_refl _) h).2 i, if_pos hi]

/-- How far a row is from being settled. -/
def ms (f : Nat → Int) : Nat := (4 - empN f 4) + (if FlP f then 0 else 1)
theorem ms_le (f : Nat → Int) : ms f ≤ 4 := by
  unfold ms
  by_cases h : FlP f
  · rw [if_pos h]; omega
  · rw [if_neg h]
    have : empN f 4 ≠ 0 := fun e => h fun k _ hk _ => empN_nil 4 e (k - 1) (by omega)
    omega
theorem ms_slid {f : Nat → Int} (hv : VdRow f) (h : sameR (slid f 4).row f = false) : ms (slid f 4).row < ms f := by
  have h1 := line_zero hv
  have h2 := (slid_ok hv 4 (Nat.le_refl _)).mg0
  have h3 := slid_zero (f := f) 4
  have hfl := slid_flush hv
  unfold ms
  rw [if_pos hfl]
  by_cases hf : FlP f
  · rw [if_pos hf]
    have hm : (slid f 4).mg ≠ 0 := fun e => by
      have := still hv hf e
      rw [sameR_iff.2 this] at h
      cases h
    omega
  · rw [if_neg hf]
    omega
/-- A row that slides again and again, and how often it changes. -/
def st : Nat → (Nat → Int) → (Nat → Int) × Nat
  | 0, f => (f, 0)
  | g + 1, f => if sameR (slid f 4).row f = true then (f, 0) else ((st g (slid f 4).row).1, (st g (slid f 4).row).2 + 1)
theorem st_done {g : Nat} {f : Nat → Int} (h : sameR (slid f 4).row f = true) : st (g + 1) f = (f, 0) := by rw [st, if_pos h]
theorem st_more {g : Nat} {f : Nat → Int} (h : sameR (slid f 4).row f = false) : st (g + 1) f = ((st g (slid f 4).row).1, (st g (slid f 4).row).2 + 1) := by rw [st, if_neg (by rw [h]; simp)]
theorem st_le : ∀ g (f : Nat → Int), VdRow f → (st g f).2 ≤ ms f
  | 0, _, _ => Nat.zero_le _
  | g + 1, f, hv => by
    by_cases h : sameR (slid f 4).row f = true
    · rw [st_done h]; exact Nat.zero_le _
    · have h : sameR (slid f 4).row f = false := by simpa using h
      rw [st_more h]
      have := st_le g (slid f 4).row (slid_vd hv)
      have := ms_slid hv h
      show (st g (slid f 4).row).2 + 1 ≤ ms f
      omega
theorem st_vd : ∀ g (f : Nat → Int), VdRow f → VdRow (st g f).1
  | 0, _, h => h
  | g + 1, f, hv => by
    by_cases h : sameR (slid f 4).row f = true
    · rw [st_done h]; exact hv
    · have h : sameR (slid f 4).row f = false := by simpa using h
      rw [st_more h]
      exact st_vd g _ (slid_vd hv)
theorem st_still : ∀ g (f : Nat → Int), VdRow f → ms f < g → sameR (slid (st g f).1 4).row (st g f).1 = true
  | 0, _, _, h => by omega
  | g + 1, f, hv, hm => by
    by_cases h : sameR (slid f 4).row f = true
    · rw [st_done h]; exact h
    · have h : sameR (slid f 4).row f = false := by simpa using h
      rw [st_more h]
      have := ms_slid hv h
      exact st_still g _ (slid_vd hv) (by omega)
def stR (f : Nat → Int) : Nat → Int := if VdRow f then (st 5 f).1 else fun _ => 0
def stT (f : Nat → Int) : Int := if VdRow f then ((st 5 f).2 : Int) else 0
theorem st_yes {f : Nat → Int} (h : VdRow f) : stR f = (st 5 f).1 ∧ stT f = ((st 5 f).2 : Int) := by simp [stR, stT, h]
theorem st_no {f : Nat → Int} (h : ¬ VdRow f) : stR f = (fun _ => 0) ∧ stT f = 0 := by simp [stR, stT, h]

/-- A row from its end. -/
def rev (f : Nat → Int) : Nat → Int := fun i => f (3 - i)
theorem rev_vd {f : Nat → Int} (h : VdRow f) : VdRow (rev f) := fun i hi => h _ (by omega)
theorem vd_rev {f : Nat → Int} : VdRow (rev f) ↔ VdRow f := ⟨fun h i hi => by have := h (3 - i) (by omega); unfold rev at this; rwa [show 3 - (3 - i) = i by omega] at this, rev_vd⟩
theorem rev_rev (f : Nat → Int) : ∀ i, i < 4 → rev (rev f) i = f i := fun i hi => by show f (3 - (3 - i)) = f i; rw [show 3 - (3 - i) = i by omega]
def tuR (f : Nat → Int) : Nat → Int := if VdRow f then rev f else fun _ => 0
theorem tu_yes {f : Nat → Int} (h : VdRow f) : tuR f = rev f := by simp [tuR, h]
theorem tu_no {f : Nat → Int} (h : ¬ VdRow f) : tuR f = fun _ => 0 := by simp [tuR, h]
theorem mg_rev (f : Nat → Int) : (slid (rev f) 4).mg = (slid f 4).mg := by
  rw [slid_qd (rev f), slid_qd f]
  exact mg_turn _ _ _ _
theorem emp_rev (f : Nat → Int) : empN (rev f) 4 = empN f 4 := by
  have e : ∀ g : Nat → Int, empN g 4 = (if g 0 = 0 then 1 else 0) + (if g 1 = 0 then 1 else 0) + (if g 2 = 0 then 1 else 0) + (if g 3 = 0 then 1 else 0) := fun g => by
    rw [empN_step, empN_step, empN_step, empN_step]; simp [empN]
  rw [e, e]
  show (if f 3 = 0 then 1 else 0) + (if f 2 = 0 then 1 else 0) + (if f 1 = 0 then 1 else 0) + (if f 0 = 0 then 1 else 0) = _
  omega
theorem n_rev {f : Nat → Int} : (slid (rev f) 4).n = (slid f 4).n := by
  have h1 := slid_zero (f := f) 4
  have h2 := slid_zero (f := rev f) 4
  rw [mg_rev, emp_rev] at h2
  omega
/-- How many of the first numbers are tiles. -/
def many (f : Nat → Int) : Nat → Int
  | 0 => 0
  | k + 1 => if 0 < f k then many f k + 1 else many f k
theorem many_bd (f : Nat → Int) : ∀ k, 0 ≤ many f k ∧ many f k ≤ k
  | 0 => by simp [many]
  | k + 1 => by
    have := many_bd f k
    unfold many
    split <;> omega
theorem many_emp {f : Nat → Int} (h : ∀ i, i < 4 → 0 ≤ f i) : ∀ k, k ≤ 4 → many f k + empN f k = k
  | 0, _ => rfl
  | k + 1, hk => by
    have := many_emp h k (by omega)
    have := h k (by omega)
    rw [empN_step]
    unfold many
    split <;> split <;> omega
theorem many_slid {f : Nat → Int} (h : VdRow f) : many (slid f 4).row 4 = ((slid f 4).n : Int) := by
  have h1 := many_emp (f := (slid f 4).row) (fun i hi => (slid_vd h i hi).1) 4 (Nat.le_refl _)
  have h2 := line_zero h
  have h3 := slid_zero (f := f) 4
  omega
theorem many_less {f : Nat → Int} (h : VdRow f) : many f 4 - many (slid f 4).row 4 = (slid f 4).mg := by
  have h1 := many_emp (f := f) (fun i hi => (h i hi).1) 4 (Nat.le_refl _)
  have h3 := slid_zero (f := f) 4
  rw [many_slid h]
  omega

/-- A slide to the first place and one to the last place leave the same tiles. -/
def SyP (f : Nat → Int) : Prop := ∀ k, k < (slid f 4).n → (slid f 4).row k = (slid (rev f) 4).row ((slid f 4).n - 1 - k)
instance (f : Nat → Int) : Decidable (SyP f) := by unfold SyP; infer_instance
def syR (f : Nat → Int) : Bool := decide (VdRow f ∧ SyP f)
theorem syR_yes {f : Nat → Int} (h : VdRow f) : syR f = decide (SyP f) := by simp [syR, h]
theorem syR_no {f : Nat → Int} (h : ¬ VdRow f) : syR f = false := by simp [syR, h]
theorem fl_rev {s : Slid} {m : Nat} (h : SlidOk s m) (hn : s.n ≤ 4) : ∀ k, k < 4 → (fl (rev s.row) 4).1 k = if k < s.n then s.row (s.n - 1 - k) else 0 := by
  have hf := h.full
  have hr := h.rest
  rcases (by omega : s.n = 0 ∨ s.n = 1 ∨ s.n = 2 ∨ s.n = 3 ∨ s.n = 4) with e | e | e | e | e <;> rw [e] at hf hr ⊢
  · have r0 := hr 0 (by omega); have r1 := hr 1 (by omega); have r2 := hr 2 (by omega); have r3 := hr 3 (by omega)
    intro k hk
    simp [fl, rev, r0, r1, r2, r3]
  · have r0 := hf 0 (by omega); have r1 := hr 1 (by omega); have r2 := hr 2 (by omega); have r3 := hr 3 (by omega)
    intro k hk
    rcases (by omega : k = 0 ∨ k = 1 ∨ k = 2 ∨ k = 3) with rfl | rfl | rfl | rfl <;> simp [fl, rev, r0, r1, r2, r3, upd]
  · have r0 := hf 0 (by omega); have r1 := hf 1 (by omega); have r2 := hr 2 (by omega); have r3 := hr 3 (by omega)
    intro k hk
    rcases (by omega : k = 0 ∨ k = 1 ∨ k = 2 ∨ k = 3) with rfl | rfl | rfl | rfl <;> simp [fl, rev, r0, r1, r2, r3, upd]
  · have r0 := hf 0 (by omega); have r1 := hf 1 (by omega); have r2 := hf 2 (by omega); have r3 := hr 3 (by omega)
    intro k hk
    rcases (by omega : k = 0 ∨ k = 1 ∨ k = 2 ∨ k = 3) with rfl | rfl | rfl | rfl <;> simp [fl, rev, r0, r1, r2, r3, upd]
  · have r0 := hf 0 (by omega); have r1 := hf 1 (by omega); have r2 := hf 2 (by omega); have r3 := hf 3 (by omega)
    intro k hk
    rcases (by omega : k = 0 ∨ k = 1 ∨ k = 2 ∨ k = 3) with rfl | rfl | rfl | rfl <;> simp [fl, rev, r0, r1, r2, r3, upd]
theorem sy_same {f : Nat → Int} (h : VdRow f) : sameR (slid f 4).row (fl (rev (slid (rev f) 4).row) 4).1 = decide (SyP f) := by
  have ho := slid_ok h 4 (Nat.le_refl _)
  have hp := slid_ok (rev_vd h) 4 (Nat.le_refl _)
  have hn : (slid (rev f) 4).n = (slid f 4).n := n_rev
  have key := fl_rev hp hp.n_le
  rw [hn] at key
  by_cases hs : SyP f
  · rw [decide_eq_true hs, sameR_iff]
    intro k hk
    rw [key k hk]
    split
    · exact hs k (by assumption)
    · exact ho.rest k (by omega)
  · rw [decide_eq_false hs]
    refine Bool.eq_false_iff.2 fun e => hs fun k hk => ?_
    rw [sameR_iff] at e
    have := e k (by have := ho.n_le; omega)
    rwa [key k (by have := ho.n_le; omega), if_pos hk] at this
theorem sy_rev {f : Nat → Int} : SyP (rev f) ↔ SyP f := by
  have e1 : slid (rev (rev f)) 4 = slid f 4 := slid_congr 4 (rev_rev f)
  have hn : (slid (rev f) 4).n = (slid f 4).n := n_rev
  unfold SyP
  rw [hn, e1]
  constructor
  · intro h k hk
    have := h ((slid f 4).n - 1 - k) (by omega)
    rw [show (slid f 4).n - 1 - ((slid f 4).n - 1 - k) = k by omega] at this
    exact this.symm
  · intro h k hk
    have := h ((slid f 4).n - 1 - k) (by omega)
    rw [show (slid f 4).n - 1 - ((slid f 4).n - 1 - k) = k by omega] at this
    exact this.symm
theorem syR_rev (f : Nat → Int) : syR (rev f) = syR f := by
  unfold syR
  by_cases h : VdRow f ∧ SyP f
  · rw [decide_eq_true h, decide_eq_true ⟨vd_rev.2 h.1, sy_rev.2 h.2⟩]
  · rw [decide_eq_false h, decide_eq_false (fun e => h ⟨vd_rev.1 e.1, sy_rev.1 e.2⟩)]

/-- The greatest sum of scores. -/
def mo : Nat → (Nat → Int) → Int
  | 0, _ => 0
  | g + 1, f => if (slid f 4).mg = 0 then 0 else max ((slid f 4).sc + mo g (slid f 4).row) ((slid (rev f) 4).sc + mo g (slid (rev f) 4).row)
theorem mo_none {g : Nat} {f : Nat → Int} (h : (slid f 4).mg = 0) : mo g f = 0 := by
  cases g
  · rfl
  · rw [mo, if_pos h]
theorem mo_some {g : Nat} {f : Nat → Int} (h : (slid f 4).mg ≠ 0) : mo (g + 1) f = max ((slid f 4).sc + mo g (slid f 4).row) ((slid (rev f) 4).sc + mo g (slid (rev f) 4).row) := by rw [mo, if_neg h]
theorem mo_congr : ∀ g {f f' : Nat → Int}, (∀ i, i < 4 → f i = f' i) → mo g f = mo g f'
  | 0, _, _, _ => rfl
  | g + 1, f, f', h => by
    have e1 : slid f 4 = slid f' 4 := slid_congr 4 h
    have e2 : slid (rev f) 4 = slid (rev f') 4 := slid_congr 4 fun i hi => h _ (by omega)
    rw [mo, mo, e1, e2]
theorem mo_rev (g : Nat) (f : Nat → Int) : mo g (rev f) = mo g f := by
  cases g
  · rfl
  · rw [mo, mo, mg_rev, slid_congr 4 (rev_rev f)]
    split
    · rfl
    · exact Int.max_comm _ _
theorem mo_bd : ∀ g (f : Nat → Int), VdRow f → 0 ≤ mo g f ∧ mo g f ≤ g * 1048576
  | 0, _, _ => by simp [mo]
  | g + 1, f, hv => by
    have a := mo_bd g (slid f 4).row (slid_vd hv)
    have b := mo_bd g (slid (rev f) 4).row (slid_vd (rev_vd hv))
    have c := slid_ok hv 4 (Nat.le_refl _)
    have d := slid_ok (rev_vd hv) 4 (Nat.le_refl _)
    have c0 := c.sc0; have c1 := c.sc1; have d0 := d.sc0; have d1 := d.sc1
    unfold mo
    split
    · omega
    · omega
/-- The number of tiles bounds the mergers that can follow. -/
def tl (f : Nat → Int) : Nat := 4 - empN f 4
theorem tl_slid {f : Nat → Int} (hv : VdRow f) (h : (slid f 4).mg ≠ 0) : tl (slid f 4).row < tl f := by
  have h1 := line_zero hv
  have h2 := (slid_ok hv 4 (Nat.le_refl _)).mg0
  have h3 := slid_zero (f := f) 4
  unfold tl
  omega
theorem tl_rev (f : Nat → Int) : tl (rev f) = tl f := by unfold tl; rw [emp_rev]
theorem mo_more : ∀ g (f : Nat → Int), VdRow f → tl f < g → mo (g + 1) f = mo g f
  | 0, _, _, h => by omega
  | g + 1, f, hv, h => by
    by_cases hm : (slid f 4).mg = 0
    · rw [mo_none hm, mo_none hm]
    · rw [mo_some hm, mo_some hm]
      have h1 := tl_slid hv hm
      have h2 := tl_slid (rev_vd hv) (by rw [mg_rev]; exact hm)
      rw [tl_rev] at h2
      rw [mo_more g _ (slid_vd hv) (by omega), mo_more g _ (slid_vd (rev_vd hv)) (by omega)]
def moR (f : Nat → Int) : Int := if VdRow f then mo 5 f else 0
theorem mo_yes {f : Nat → Int} (h : VdRow f) : moR f = mo 5 f := by simp [moR, h]
theorem mo_no {f : Nat → Int} (h : ¬ VdRow f) : moR f = 0 := by simp [moR, h]
/-- One slide, and what can follow. -/
theorem mo_first {f : Nat → Int} (hv : VdRow f) : (slid f 4).sc + mo 5 (slid f 4).row ≤ mo 5 f := by
  by_cases hm : (slid f 4).mg = 0
  · have hs : (slid f 4).sc = 0 := by
      have := sc_mg hv 4 (Nat.le_refl _)
      have := (slid_ok hv 4 (Nat.le_refl _)).sc0
      omega
    have hs2 : (slid (slid f 4).row 4).mg = 0 := by
      have h1 := (line_again hm).1
      have h2 := sc_mg (slid_vd hv) 4 (Nat.le_refl _)
      have h3 := (slid_ok (slid_vd hv) 4 (Nat.le_refl _)).mg0
      omega
    rw [mo_none hm, mo_none hs2, hs]
    omega
  · have h1 := tl_slid hv hm
    have h2 : tl f ≤ 4 := by unfold tl; omega
    rw [mo_some hm, mo_more 4 _ (slid_vd hv) (by omega)]
    exact Int.le_max_left _ _

/-- The number of a row. -/
def num (f : Nat → Int) : Nat → Int
  | 0 => 0
  | k + 1 => num f k * 18 + f k
theorem num_bd {f : Nat → Int} (h : VdRow f) : ∀ k, k ≤ 4 → 0 ≤ num f k ∧ num f k < 18 ^ k
  | 0, _ => by simp [num]
  | k + 1, hk => by
    have := num_bd h k (by omega)
    have := h k (by omega)
    unfold num
    rw [Int.pow_succ]
    omega
theorem num_le {f : Nat → Int} (h : VdRow f) {k : Nat} (hk : k ≤ 4) : 0 ≤ num f k ∧ num f k ≤ 104975 := by
  have := num_bd h k hk
  rcases (by omega : k = 0 ∨ k = 1 ∨ k = 2 ∨ k = 3 ∨ k = 4) with rfl | rfl | rfl | rfl | rfl <;> omega
def nuR (f : Nat → Int) : Int := if VdRow f then num f 4 else 0
theorem nu_yes {f : Nat → Int} (h : VdRow f) : nuR f = num f 4 := by simp [nuR, h]
theorem nu_no {f : Nat → Int} (h : ¬ VdRow f) : nuR f = 0 := by simp [nuR, h]
/-- The digits of a number from place j on. -/
def dig (n b : Nat) (j : Nat) : Nat → Int := fun i => if j ≤ i then ((n / b ^ (3 - i) % b : Nat) : Int) else 0
def AtOk (n : Int) : Prop := 0 ≤ n ∧ n ≤ 104975
instance (n : Int) : Decidable (AtOk n) := by unfold AtOk; infer_instance
def atO (n : Int) : Bool := decide (AtOk n)
def atR (n : Int) : Nat → Int := if AtOk n then dig n.toNat 18 0 else fun _ => 0
theorem at_yes {n : Int} (h : AtOk n) : atO n = true ∧ atR n = dig n.toNat 18 0 := by simp [atO, atR, h]
theorem at_no {n : Int} (h : ¬ AtOk n) : atO n = false ∧ atR n = fun _ => 0 := by simp [atO, atR, h]
theorem dig_step (n b : Nat) {j : Nat} (hj : j < 4) : ∀ i, i < 4 → upd (dig n b (j + 1)) j ((n / b ^ (3 - j) % b : Nat) : Int) i = dig n b j i := by
  intro i hi
  unfold upd dig
  by_cases e : i = j
  · subst e; simp
  · rw [if_neg e]
    by_cases hl : j + 1 ≤ i
    · rw [if_pos hl, if_pos (by omega)]
    · rw [if_neg hl, if_neg (by omega)]
end Go.Proofs.Ytfikbbhlenopfaa.Plain
