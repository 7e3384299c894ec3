/-
  Plain facts on boards of chapter 2: places told by lines and sides, and what a line becomes when it slides. No program stands in this text.
-/
namespace Go.Proofs.Ytpiegllffkjneaa.Plain

/-- f, but v at place i. -/
def upd (f : Nat → Int) (i : Nat) (v : Int) : Nat → Int := fun j => if j = i then v else f j
theorem upd_same (f : Nat → Int) (i : Nat) (v : Int) : upd f i v i = v := by simp [upd]
theorem upd_other (f : Nat → Int) {i j : Nat} (v : Int) (h : j ≠ i) : upd f i v j = f j := by simp [upd, h]

/-- All numbers are those of cells. -/
def Vd (f : Nat → Int) : Prop := ∀ i, i < 16 → 0 ≤ f i ∧ f i ≤ 17
instance (f : Nat → Int) : Decidable (Vd f) := by unfold Vd; infer_instance

/-- The place k of the line i, seen from the side d. -/
def pos (d i k : Nat) : Nat := if d = 0 then i * 4 + k else if d = 1 then k * 4 + i else if d = 2 then i * 4 + (3 - k) else (3 - k) * 4 + i
def lineOf (d j : Nat) : Nat := if d = 0 then j / 4 else if d = 1 then j % 4 else if d = 2 then j / 4 else j % 4
def placeOf (d j : Nat) : Nat := if d = 0 then j % 4 else if d = 1 then j / 4 else if d = 2 then 3 - j % 4 else 3 - j / 4
theorem pos_lt {d i k : Nat} (hi : i < 4) (hk : k < 4) : pos d i k < 16 := by
  unfold pos; split <;> (try split) <;> (try split) <;> omega
theorem lineOf_pos {d i k : Nat} (hi : i < 4) (hk : k < 4) : lineOf d (pos d i k) = i := by
  unfold lineOf pos; split <;> (try split) <;> (try split) <;> omega
theorem placeOf_pos {d i k : Nat} (hi : i < 4) (hk : k < 4) : placeOf d (pos d i k) = k := by
  unfold placeOf pos; split <;> (try split) <;> (try split) <;> omega
theorem pos_of {d j : Nat} (hj : j < 16) : pos d (lineOf d j) (placeOf d j) = j := by
  unfold lineOf placeOf pos; split <;> (try split) <;> (try split) <;> omega
theorem lineOf_lt {d j : Nat} (hj : j < 16) : lineOf d j < 4 := by
  unfold lineOf; split <;> (try split) <;> (try split) <;> omega
theorem placeOf_lt {d j : Nat} (hj : j < 16) : placeOf d j < 4 := by
  unfold placeOf; split <;> (try split) <;> (try split) <;> omega

/-- What a line is while it slides: the tiles that have come out, how many, the score, the mergers, and the tile with which the next one may merge. -/
structure Slid where
  row : Nat → Int
  n : Nat
  sc : Int
  mg : Int
  op : Int
def slid0 : Slid := ⟨fun _ => 0, 0, 0, 0, 0⟩
def worth (t : Int) : Int := 2 ^ t.toNat
def slidStep (s : Slid) (t : Int) : Slid :=
  if t = 0 then s else if t = s.op ∧ t < 17 then ⟨upd s.row (s.n - 1) (t + 1), s.n, s.sc + worth (t + 1), s.mg + 1, 0⟩
  else ⟨upd s.row s.n t, s.n + 1, s.sc, s.mg, t⟩
def slid (f : Nat → Int) : Nat → Slid
  | 0 => slid0
  | k + 1 => slidStep (slid f k) (f k)

theorem worth_bd {t : Int} (h0 : 0 ≤ t) (h1 : t ≤ 18) : 1 ≤ worth t ∧ worth t ≤ 262144 := by
  obtain ⟨n, rfl⟩ := Int.eq_ofNat_of_zero_le h0
  have hn : n ≤ 18 := by omega
  unfold worth
  simp only [Int.toNat_natCast]
  clear h0 h1
  rcases (by omega : n = 0 ∨ n = 1 ∨ n = 2 ∨ n = 3 ∨ n = 4 ∨ n = 5 ∨ n = 6 ∨ n = 7 ∨ n = 8 ∨ n = 9 ∨ n = 10 ∨ n = 11 ∨ n = 12 ∨ n = 13 ∨ n = 14 ∨ n = 15 ∨ n = 16 ∨ n = 17 ∨ n = 18) with rfl | rfl | rfl | rfl | rfl | rfl | rfl | rfl | rfl | rfl | rfl | rfl | rfl | rfl | rfl | rfl | rfl | rfl | rfl <;> decide

/-- A line's numbers are those of cells. -/
def VdRow (f : Nat → Int) : Prop := ∀ i, i < 4 → 0 ≤ f i ∧ f i ≤ 17
/-- What holds at every step of a slide. -/
structure SlidOk (s : Slid) (k : Nat) : Prop where
  n_le : s.n ≤ k
  op0 : 0 ≤ s.op
  op1 : s.op ≤ 17
  last : s.op ≠ 0 → 1 ≤ s.n ∧ s.row (s.n - 1) = s.op
  sc0 : 0 ≤ s.sc
  sc1 : s.sc ≤ k * 262144
  mg0 : 0 ≤ s.mg
  mg1 : s.mg ≤ k
  row0 : ∀ j, 0 ≤ s.row j
  row1 : ∀ j, s.row j ≤ 17
  full : ∀ j, j < s.n → s.row j ≠ 0
  rest : ∀ j, s.n ≤ j → s.row j = 0
theorem slidOk0 : SlidOk slid0 0 := by
  constructor <;> simp [slid0]
theorem slidOk_step {s : Slid} {k : Nat} {t : Int} (h : SlidOk s k) (h0 : 0 ≤ t) (h1 : t ≤ 17) : SlidOk (slidStep s t) (k + 1) := by
  obtain ⟨a1, a2, a3, a4, a5, a6, a7, a8, a9, a10, a11, a12⟩ := h
  unfold slidStep
  split
  · exact ⟨by omega, a2, a3, a4, a5, by omega, a7, by omega, a9, a10, a11, a12⟩
  · split
    · rename_i ht hm
      obtain ⟨hm, ht2⟩ := hm
      obtain ⟨hw1, hw2⟩ := worth_bd (t := t + 1) (by omega) (by omega)
      obtain ⟨b1, b2⟩ := a4 (by omega)
      constructor <;> simp only [] <;> (try omega)
      · intro j; by_cases e : j = s.n - 1 <;> simp [upd, e] <;> first | omega | exact a9 j
      · intro j; by_cases e : j = s.n - 1 <;> simp [upd, e] <;> first | omega | exact a10 j
      · intro j hj; by_cases e : j = s.n - 1 <;> simp [upd, e] <;> first | omega | exact a11 j hj
      · intro j hj; rw [upd_other _ _ (by omega)]; exact a12 j hj
    · constructor <;> simp only [] <;> (try omega)
      · intro _; exact ⟨by omega, by simp [upd]⟩
      · intro j; by_cases e : j = s.n <;> simp [upd, e] <;> first | omega | exact a9 j
      · intro j; by_cases e : j = s.n <;> simp [upd, e] <;> first | omega | exact a10 j
      · intro j hj; by_cases e : j = s.n <;> simp [upd, e] <;> first | omega | exact a11 j (by omega)
      · intro j hj; rw [upd_other _ _ (by omega)]; exact a12 j (by omega)
theorem slid_ok {f : Nat → Int} (hf : VdRow f) : ∀ k, k ≤ 4 → SlidOk (slid f k) k
  | 0, _ => slidOk0
  | k + 1, h => slidOk_step (slid_ok hf k (by omega)) (hf k (by omega)).1 (hf k (by omega)).2
theorem slid_congr {f g : Nat → Int} : ∀ k, (∀ i, i < k → f i = g i) → slid f k = slid g k
  | 0, _ => rfl
  | k + 1, h => by
    show slidStep (slid f k) (f k) = slidStep (slid g k) (g k)
    rw [slid_congr k (fun i hi => h i (by omega)), h k (by omega)]

/-- The line i of a board, seen from the side d. -/
def lineF (f : Nat → Int) (d i : Nat) : Nat → Int := fun k => f (pos d i k)
theorem lineF_vd {f : Nat → Int} (hf : Vd f) (d : Nat) {i : Nat} (hi : i < 4) : VdRow (lineF f d i) := fun _ hk => hf _ (pos_lt hi hk)
/-- The board behind a slide. -/
def slideB (f : Nat → Int) (d : Nat) : Nat → Int := fun j => (slid (lineF f d (lineOf d j)) 4).row (placeOf d j)
def slideS (f : Nat → Int) (d : Nat) : Nat → Int
  | 0 => 0
  | i + 1 => slideS f d i + (slid (lineF f d i) 4).sc
def slideM (f : Nat → Int) (d : Nat) : Nat → Int
  | 0 => 0
  | i + 1 => slideM f d i + (slid (lineF f d i) 4).mg
theorem slideB_vd {f : Nat → Int} (hf : Vd f) (d : Nat) : Vd (slideB f d) := fun _ hj =>
  ⟨(slid_ok (lineF_vd hf d (lineOf_lt hj)) 4 (Nat.le_refl _)).row0 _, (slid_ok (lineF_vd hf d (lineOf_lt hj)) 4 (Nat.le_refl _)).row1 _⟩
theorem slideS_bd {f : Nat → Int} (hf : Vd f) (d : Nat) : ∀ i, i ≤ 4 → 0 ≤ slideS f d i ∧ slideS f d i ≤ i * 1048576
  | 0, _ => by simp [slideS]
  | i + 1, h => by
    have h1 := slideS_bd hf d i (by omega)
    have h2 := slid_ok (lineF_vd hf d (i := i) (by omega)) 4 (Nat.le_refl _)
    have h3 := h2.sc0
    have h4 := h2.sc1
    unfold slideS
    omega
theorem slideM_bd {f : Nat → Int} (hf : Vd f) (d : Nat) : ∀ i, i ≤ 4 → 0 ≤ slideM f d i ∧ slideM f d i ≤ i * 4
  | 0, _ => by simp [slideM]
  | i + 1, h => by
    have h1 := slideM_bd hf d i (by omega)
    have h2 := slid_ok (lineF_vd hf d (i := i) (by omega)) 4 (Nat.le_refl _)
    have h3 := h2.mg0
    have h4 := h2.mg1
    unfold slideM
    omega

/-- What a view shows of a board, and what leads back. -/
def viewF (f : Nat → Int) (d : Nat) : Nat → Int := fun j => f (pos d (j / 4) (j % 4))
def backF (g : Nat → Int) (d : Nat) : Nat → Int := fun j => g (lineOf d j * 4 + placeOf d j)
/-- Transposing, cell by cell: r rows are done, and c cells of the next one. -/
def trF (f : Nat → Int) (r c : Nat) : Nat → Int := fun j => if j % 4 < r ∨ (j % 4 = r ∧ j / 4 < c) then f (j % 4 * 4 + j / 4) else 0
theorem trF_step (f : Nat → Int) {r c : Nat} (hr : r < 4) : ∀ j, j < 16 → upd (trF f r c) (c * 4 + r) (f (r * 4 + c)) j = trF f r (c + 1) j := by
  intro j hj
  unfold upd trF
  by_cases e : j = c * 4 + r
  · subst e
    rw [if_pos rfl, if_pos (by omega), show (c * 4 + r) % 4 = r by omega, show (c * 4 + r) / 4 = c by omega]
  · rw [if_neg e]
    by_cases h : j % 4 < r ∨ (j % 4 = r ∧ j / 4 < c)
    · rw [if_pos h, if_pos (by omega)]
    · rw [if_neg h, if_neg (by omega)]
theorem trF_row (f : Nat → Int) (r : Nat) : ∀ j, j < 16 → trF f r 4 j = trF f (r + 1) 0 j := by
  intro j hj; unfold trF; split <;> split <;> first | rfl | omega
theorem trF_all (f : Nat → Int) : ∀ j, j < 16 → trF f 4 0 j = f (j % 4 * 4 + j / 4) := by
  intro j hj; unfold trF; rw [if_pos (by omega)]
theorem trF_zero (f : Nat → Int) (j : Nat) : trF f 0 0 j = 0 := by simp [trF]
/-- Mirroring, cell by cell. -/
def miF (f : Nat → Int) (r c : Nat) : Nat → Int := fun j => if j / 4 < r ∨ (j / 4 = r ∧ 3 - j % 4 < c) then f (j / 4 * 4 + (3 - j % 4)) else 0
theorem miF_step (f : Nat → Int) {r c k : Nat} (hc : c + k = 3) : ∀ j, j < 16 → upd (miF f r c) (r * 4 + k) (f (r * 4 + c)) j = miF f r (c + 1) j := by
  intro j hj
  unfold upd miF
  by_cases e : j = r * 4 + k
  · subst e
    rw [if_pos rfl, if_pos (by omega), show (r * 4 + k) / 4 = r by omega, show 3 - (r * 4 + k) % 4 = c by omega]
  · rw [if_neg e]
    by_cases h : j / 4 < r ∨ (j / 4 = r ∧ 3 - j % 4 < c)
    · rw [if_pos h, if_pos (by omega)]
    · rw [if_neg h, if_neg (by omega)]
theorem miF_row (f : Nat → Int) (r : Nat) : ∀ j, j < 16 → miF f r 4 j = miF f (r + 1) 0 j := by
  intro j hj; unfold miF; split <;> split <;> first | rfl | omega
theorem miF_all (f : Nat → Int) : ∀ j, j < 16 → miF f 4 0 j = f (j / 4 * 4 + (3 - j % 4)) := by
  intro j hj; unfold miF; rw [if_pos (by omega)]
theorem miF_zero (f : Nat → Int) (j : Nat) : miF f 0 0 j = 0 := by simp [miF]
theorem slideB_back (f : Nat → Int) (d : Nat) (g : Nat → Int) (h : ∀ i c, i < 4 → c < 4 → g (i * 4 + c) = (slid (lineF f d i) 4).row c) : ∀ j, j < 16 → backF g d j = slideB f d j := by
  intro j hj
  exact h _ _ (lineOf_lt hj) (placeOf_lt hj)
theorem viewF_line (f : Nat → Int) (d i : Nat) {c : Nat} (hc : c < 4) : viewF f d (i * 4 + c) = lineF f d i c := by
  unfold viewF lineF
  rw [show (i * 4 + c) / 4 = i by omega, show (i * 4 + c) % 4 = c by omega]

/-- A board of which i lines and k places of the next one have been written behind a slide. -/
def outF (f : Nat → Int) (d i k : Nat) : Nat → Int := fun j => if lineOf d j < i ∨ (lineOf d j = i ∧ placeOf d j < k) then slideB f d j else f j
theorem outF_zero (f : Nat → Int) (d j : Nat) : outF f d 0 0 j = f j := by simp [outF]
theorem outF_step (f : Nat → Int) (d : Nat) {i k : Nat} (hi : i < 4) (hk : k < 4) : ∀ j, j < 16 → upd (outF f d i k) (pos d i k) ((slid (lineF f d i) 4).row k) j = outF f d i (k + 1) j := by
  intro j hj
  have hl := lineOf_pos (d := d) hi hk
  have hp := placeOf_pos (d := d) hi hk
  unfold upd outF
  by_cases e : j = pos d i k
  · subst e
    rw [if_pos rfl, if_pos (by rw [hl, hp]; omega)]
    unfold slideB
    rw [hl, hp]
  · rw [if_neg e]
    by_cases h : lineOf d j < i ∨ (lineOf d j = i ∧ placeOf d j < k)
    · rw [if_pos h, if_pos (by omega)]
    · rw [if_neg h, if_neg]
      rintro (h2 | ⟨h2, h3⟩)
      · exact h (.inl h2)
      · have h4 : placeOf d j = k := by
          have : ¬ placeOf d j < k := fun h5 => h (.inr ⟨h2, h5⟩)
          omega
        exact e (by rw [← pos_of (d := d) hj, h2, h4])
theorem outF_row (f : Nat → Int) (d i : Nat) : ∀ j, j < 16 → outF f d i 4 j = outF f d (i + 1) 0 j := by
  intro j hj
  have := placeOf_lt (d := d) hj
  unfold outF
  by_cases h : lineOf d j < i ∨ (lineOf d j = i ∧ placeOf d j < 4)
  · rw [if_pos h, if_pos (by omega)]
  · rw [if_neg h, if_neg (by omega)]
theorem outF_all (f : Nat → Int) (d : Nat) : ∀ j, j < 16 → outF f d 4 0 j = slideB f d j := by
  intro j hj
  have := lineOf_lt (d := d) hj
  unfold outF
  rw [if_pos (.inl this)]

/-- The cells of a line, two numbers a cell. -/
def lineV (d i : Nat) : Nat → Int := fun j => if j % 2 = 0 then ((pos d i (j / 2) / 4 : Nat) : Int) else ((pos d i (j / 2) % 4 : Nat) : Int)
theorem lineV_row (d i k : Nat) : lineV d i (k * 2) = ((pos d i k / 4 : Nat) : Int) := by
  unfold lineV; rw [if_pos (by omega), show k * 2 / 2 = k by omega]
theorem lineV_col (d i k : Nat) : lineV d i (k * 2 + 1) = ((pos d i k % 4 : Nat) : Int) := by
  unfold lineV; rw [if_neg (by omega), show (k * 2 + 1) / 2 = k by omega]
/-- A board of which r lines, seen from the side d, have slid. -/
def seenF (f : Nat → Int) (d r : Nat) : Nat → Int := fun j => if j < r * 4 then (slid (lineF f d (j / 4)) 4).row (j % 4) else viewF f d j
/-- What a slide has made so far: no board yet, the score, the mergers. -/
def doneF (f : Nat → Int) (d r : Nat) : Nat → Int := fun j => if j = 16 then slideS f d r else if j = 17 then slideM f d r else 0
/-- What a slide makes: the board, the score, the mergers. -/
def slideV (f : Nat → Int) (d : Nat) : Nat → Int := fun j => if j < 16 then slideB f d j else if j = 16 then slideS f d 4 else slideM f d 4
theorem seen_slid (f : Nat → Int) (d r : Nat) : slid (fun c => viewF f d (r * 4 + c)) 4 = slid (lineF f d r) 4 := slid_congr 4 fun _ hc => viewF_line f d r hc
theorem seenF_zero (f : Nat → Int) (d j : Nat) : seenF f d 0 j = viewF f d j := by simp [seenF]
theorem doneF_zero (f : Nat → Int) (d j : Nat) : doneF f d 0 j = 0 := by unfold doneF slideS slideM; split <;> (try split) <;> rfl
theorem doneF_step (f : Nat → Int) (d r j : Nat) : upd (upd (doneF f d r) 16 (slideS f d r + (slid (lineF f d r) 4).sc)) 17 (slideM f d r + (slid (lineF f d r) 4).mg) j = doneF f d (r + 1) j := by
  unfold upd doneF
  by_cases h : j = 17
  · subst h; simp [slideM]
  · by_cases h2 : j = 16
    · subst h2; simp [slideS]
    · simp [h, h2]
theorem seenF_back (f : Nat → Int) (d : Nat) : ∀ j, j < 16 → backF (seenF f d 4) d j = slideB f d j :=
  slideB_back f d _ fun i c hi hc => by
    unfold seenF
    rw [if_pos (by omega), show (i * 4 + c) / 4 = i by omega, show (i * 4 + c) % 4 = c by omega]
theorem viewF_vd {f : Nat → Int} (hf : Vd f) (d : Nat) {r : Nat} (hr : r < 4) : VdRow (fun c => viewF f d (r * 4 + c)) := fun c hc => by
  have := lineF_vd hf d hr c hc
  rw [← viewF_line f d r hc] at this
  exact this
end Go.Proofs.Ytpiegllffkjneaa.Plain
