/-
  Several texts in one:
  Plain facts on the checksum of chapter 1: a fold over bytes, its bounds, one step more, and that changing one byte changes it. No program stands in this text.
  Plain facts on boards of chapter 2: places told by lines and sides, and what a line becomes when it slides. No program stands in this text.
  Plain facts on what SlideBoard and MergersOf return: the slide, where the board and the direction are valid. No program stands in this text.
  Plain facts on boards that are equal, and on moves. No program stands in this text.
  Plain facts on the order of boards. No program stands in this text.
  Plain facts on lists of numbers in their order, and on lists of such that are put in order. No program stands in this text.
  Plain facts on what CountTiles, SumOf and HighestTile return. No program stands in this text.
  Plain facts on the empty cells of a board. No program stands in this text.
  Plain facts on empty cells and mergers. No program stands in this text.
  Plain facts on the forms of boards: where each form takes a cell from, how forms follow one another, and the first form. No program stands in this text.
  Plain facts on what SumOf returns: the sum of the worths, told cell by cell and number by number. No program stands in this text.
  Plain facts on what EqualPairs returns. No program stands in this text.
  Plain facts: forms of a board have the same sum and pairs, and slides go with them. No program stands in this text.
  Plain facts on the different forms of a board, in order. No program stands in this text.
  Plain facts on what LineOf returns. No program stands in this text.
  Plain facts on what PutTile and TakeTile return. No program stands in this text.
  Plain facts on the texts of boards. No program stands in this text.
  Plain facts on reading the texts of boards. No program stands in this text.
  Plain facts on slides: what a line keeps, mergers from either side, a second slide, and when no slide is a move. No program stands in this text.
  Plain facts on rows of chapter 4: what they slide to, flush rows, settled rows, rows from their ends, the most score, numbers of rows. No program stands in this text.
  Plain facts on the rows before a row: what slides to it comes of its tiles, each kept or made of two. No program stands in this text.
-/
namespace Go.Proofs.Ytfjpdopljmilpaa.Plain

/-- One step of the checksum. -/
def ckStep (h : Int) (c : UInt8) : Int := (41 * h + (c.toNat : Int) + 1) % 999979
/-- The checksum of a list of bytes. -/
def ck (l : List UInt8) : Int := l.foldl ckStep 7

theorem ckStep_bd (h : Int) (c : UInt8) : 0 ≤ ckStep h c ∧ ckStep h c < 999979 := by
  unfold ckStep; omega
theorem ck_snoc (l : List UInt8) (c : UInt8) : ck (l ++ [c]) = ckStep (ck l) c := by
  unfold ck; rw [List.foldl_append]; rfl
theorem foldl_bd (l : List UInt8) : ∀ h : Int, 0 ≤ h → h < 999979 → 0 ≤ l.foldl ckStep h ∧ l.foldl ckStep h < 999979 := by
  induction l with
  | nil => intro h a b; exact ⟨a, b⟩
  | cons c l ih => intro h _ _; exact ih _ (ckStep_bd h c).1 (ckStep_bd h c).2
theorem ck_bd (l : List UInt8) : 0 ≤ ck l ∧ ck l < 999979 := foldl_bd l 7 (by omega) (by omega)

theorem take_snoc (s : ByteArray) (k : Nat) (h : k < s.size) : s.data.toList.take (k + 1) = s.data.toList.take k ++ [s[k]] := by
  rw [List.take_succ_eq_append_getElem (by simpa using h)]; rfl
theorem take_all (s : ByteArray) : s.data.toList.take s.size = s.data.toList := List.take_of_length_le (by simp)
theorem byte_lt (c : UInt8) : (c.toNat : Int) < 256 := by have := c.toNat_lt; omega

end Go.Proofs.Ytfjpdopljmilpaa.Plain
namespace Go.Proofs.Ytfjpdopljmilpaa.Plain

/-- f, but v at place i. -/
def upd (f : Nat → Int) (i : Nat) (v : Int) : Nat → Int := fun j => if j = i then v else f j
theorem upd_same (f : Nat → Int) (i : Nat) (v : Int) : upd f i v i = v := by simp [upd]
theorem upd_other (f : Nat → Int) {i j : Nat} (v : Int) (h : j ≠ i) : upd f i v j = f j := by simp [upd, h]

/-- All numbers are those of cells. -/
def Vd (f : Nat → Int) : Prop := ∀ i, i < 16 → 0 ≤ f i ∧ f i ≤ 17
instance (f : Nat → Int) : Decidable (Vd f) := by unfold Vd; infer_instance

/-- The place k of the line i, seen from the side d. -/
def pos (d i k : Nat) : Nat := if d = 0 then i * 4 + k else if d = 1 then k * 4 + i else if d = 2 then i * 4 + (3 - k) else (3 - k) * 4 + i
def lineOf (d j : Nat) : Nat := if d = 0 then j / 4 else if d = 1 then j % 4 else if d = 2 then j / 4 else j % 4
def placeOf (d j : Nat) : Nat := if d = 0 then j % 4 else if d = 1 then j / 4 else if d = 2 then 3 - j % 4 else 3 - j / 4
theorem pos_lt {d i k : Nat} (hi : i < 4) (hk : k < 4) : pos d i k < 16 := by
  unfold pos; split <;> (try split) <;> (try split) <;> omega
theorem lineOf_pos {d i k : Nat} (hi : i < 4) (hk : k < 4) : lineOf d (pos d i k) = i := by
  unfold lineOf pos; split <;> (try split) <;> (try split) <;> omega
theorem placeOf_pos {d i k : Nat} (hi : i < 4) (hk : k < 4) : placeOf d (pos d i k) = k := by
  unfold placeOf pos; split <;> (try split) <;> (try split) <;> omega
theorem pos_of {d j : Nat} (hj : j < 16) : pos d (lineOf d j) (placeOf d j) = j := by
  unfold lineOf placeOf pos; split <;> (try split) <;> (try split) <;> omega
theorem lineOf_lt {d j : Nat} (hj : j < 16) : lineOf d j < 4 := by
  unfold lineOf; split <;> (try split) <;> (try split) <;> omega
theorem placeOf_lt {d j : Nat} (hj : j < 16) : placeOf d j < 4 := by
  unfold placeOf; split <;> (try split) <;> (try split) <;> omega

/-- What a line is while it slides: the tiles that have come out, how many, the score, the mergers, and the tile with which the next one may merge. -/
structure Slid where
  row : Nat → Int
  n : Nat
  sc : Int
  mg : Int
  op : Int
def slid0 : Slid := ⟨fun _ => 0, 0, 0, 0, 0⟩
def worth (t : Int) : Int := 2 ^ t.toNat
def slidStep (s : Slid) (t : Int) : Slid :=
  if t = 0 then s else if t = s.op ∧ t < 17 then ⟨upd s.row (s.n - 1) (t + 1), s.n, s.sc + worth (t + 1), s.mg + 1, 0⟩
  else ⟨upd s.row s.n t, s.n + 1, s.sc, s.mg, t⟩
def slid (f : Nat → Int) : Nat → Slid
  | 0 => slid0
  | k + 1 => slidStep (slid f k) (f k)

theorem worth_bd {t : Int} (h0 : 0 ≤ t) (h1 : t ≤ 18) : 1 ≤ worth t ∧ worth t ≤ 262144 := by
  obtain ⟨n, rfl⟩ := Int.eq_ofNat_of_zero_le h0
  have hn : n ≤ 18 := by omega
  unfold worth
  simp only [Int.toNat_natCast]
  clear h0 h1
  rcases (by omega : n = 0 ∨ n = 1 ∨ n = 2 ∨ n = 3 ∨ n = 4 ∨ n = 5 ∨ n = 6 ∨ n = 7 ∨ n = 8 ∨ n = 9 ∨ n = 10 ∨ n = 11 ∨ n = 12 ∨ n = 13 ∨ n = 14 ∨ n = 15 ∨ n = 16 ∨ n = 17 ∨ n = 18) with rfl | rfl | rfl | rfl | rfl | rfl | rfl | rfl | rfl | rfl | rfl | rfl | rfl | rfl | rfl | rfl | rfl | rfl | rfl <;> decide

/-- A line's numbers are those of cells. -/
def VdRow (f : Nat → Int) : Prop := ∀ i, i < 4 → 0 ≤ f i ∧ f i ≤ 17
/-- What holds at every step of a slide. -/
structure SlidOk (s : Slid) (k : Nat) : Prop where
  n_le : s.n ≤ k
  op0 : 0 ≤ s.op
  op1 : s.op ≤ 17
  last : s.op ≠ 0 → 1 ≤ s.n ∧ s.row (s.n - 1) = s.op
  sc0 : 0 ≤ s.sc
  sc1 : s.sc ≤ k * 262144
  mg0 : 0 ≤ s.mg
  mg1 : s.mg ≤ k
  row0 : ∀ j, 0 ≤ s.row j
  row1 : ∀ j, s.row j ≤ 17
  full : ∀ j, j < s.n → s.row j ≠ 0
  rest : ∀ j, s.n ≤ j → s.row j = 0
theorem slidOk0 : SlidOk slid0 0 := by
  constructor <;> simp [slid0]
theorem slidOk_step {s : Slid} {k : Nat} {t : Int} (h : SlidOk s k) (h0 : 0 ≤ t) (h1 : t ≤ 17) : SlidOk (slidStep s t) (k + 1) := by
  obtain ⟨a1, a2, a3, a4, a5, a6, a7, a8, a9, a10, a11, a12⟩ := h
  unfold slidStep
  split
  · exact ⟨by omega, a2, a3, a4, a5, by omega, a7, by omega, a9, a10, a11, a12⟩
  · split
    · rename_i ht hm
      obtain ⟨hm, ht2⟩ := hm
      obtain ⟨hw1, hw2⟩ := worth_bd (t := t + 1) (by omega) (by omega)
      obtain ⟨b1, b2⟩ := a4 (by omega)
      constructor <;> simp only [] <;> (try omega)
      · intro j; by_cases e : j = s.n - 1 <;> simp [upd, e] <;> first | omega | exact a9 j
      · intro j; by_cases e : j = s.n - 1 <;> simp [upd, e] <;> first | omega | exact a10 j
      · intro j hj; by_cases e : j = s.n - 1 <;> simp [upd, e] <;> first | omega | exact a11 j hj
      · intro j hj; rw [upd_other _ _ (by omega)]; exact a12 j hj
    · constructor <;> simp only [] <;> (try omega)
      · intro _; exact ⟨by omega, by simp [upd]⟩
      · intro j; by_cases e : j = s.n <;> simp [upd, e] <;> first | omega | exact a9 j
      · intro j; by_cases e : j = s.n <;> simp [upd, e] <;> first | omega | exact a10 j
      · intro j hj; by_cases e : j = s.n <;> simp [upd, e] <;> first | omega | exact a11 j (by omega)
      · intro j hj; rw [upd_other _ _ (by omega)]; exact a12 j (by omega)
theorem slid_ok {f : Nat → Int} (hf : VdRow f) : ∀ k, k ≤ 4 → SlidOk (slid f k) k
  | 0, _ => slidOk0
  | k + 1, h => slidOk_step (slid_ok hf k (by omega)) (hf k (by omega)).1 (hf k (by omega)).2
theorem slid_congr {f g : Nat → Int} : ∀ k, (∀ i, i < k → f i = g i) → slid f k = slid g k
  | 0, _ => rfl
  | k + 1, h => by
    show slidStep (slid f k) (f k) = slidStep (slid g k) (g k)
    rw [slid_congr k (fun i hi => h i (by omega)), h k (by omega)]

/-- The line i of a board, seen from the side d. -/
def lineF (f : Nat → Int) (d i : Nat) : Nat → Int := fun k => f (pos d i k)
theorem lineF_vd {f : Nat → Int} (hf : Vd f) (d : Nat) {i : Nat} (hi : i < 4) : VdRow (lineF f d i) := fun _ hk => hf _ (pos_lt hi hk)
/-- The board behind a slide. -/
def slideB (f : Nat → Int) (d : Nat) : Nat → Int := fun j => (slid (lineF f d (lineOf d j)) 4).row (placeOf d j)
def slideS (f : Nat → Int) (d : Nat) : Nat → Int
  | 0 => 0
  | i + 1 => slideS f d i + (slid (lineF f d i) 4).sc
def slideM (f : Nat → Int) (d : Nat) : Nat → Int
  | 0 => 0
  | i + 1 => slideM f d i + (slid (lineF f d i) 4).mg
theorem slideB_vd {f : Nat → Int} (hf : Vd f) (d : Nat) : Vd (slideB f d) := fun _ hj =>
  ⟨(slid_ok (lineF_vd hf d (lineOf_lt hj)) 4 (Nat.le_refl _)).row0 _, (slid_ok (lineF_vd hf d (lineOf_lt hj)) 4 (Nat.le_refl _)).row1 _⟩
theorem slideS_bd {f : Nat → Int} (hf : Vd f) (d : Nat) : ∀ i, i ≤ 4 → 0 ≤ slideS f d i ∧ slideS f d i ≤ i * 1048576
  | 0, _ => by simp [slideS]
  | i + 1, h => by
    have h1 := slideS_bd hf d i (by omega)
    have h2 := slid_ok (lineF_vd hf d (i := i) (by omega)) 4 (Nat.le_refl _)
    have h3 := h2.sc0
    have h4 := h2.sc1
    unfold slideS
    omega
theorem slideM_bd {f : Nat → Int} (hf : Vd f) (d : Nat) : ∀ i, i ≤ 4 → 0 ≤ slideM f d i ∧ slideM f d i ≤ i * 4
  | 0, _ => by simp [slideM]
  | i + 1, h => by
    have h1 := slideM_bd hf d i (by omega)
    have h2 := slid_ok (lineF_vd hf d (i := i) (by omega)) 4 (Nat.le_refl _)
    have h3 := h2.mg0
    have h4 := h2.mg1
    unfold slideM
    omega

/-- What a view shows of a board, and what leads back. -/
def viewF (f : Nat → Int) (d : Nat) : Nat → Int := fun j => f (pos d (j / 4) (j % 4))
def backF (g : Nat → Int) (d : Nat) : Nat → Int := fun j => g (lineOf d j * 4 + placeOf d j)
/-- Transposing, cell by cell: r rows are done, and c cells of the next one. -/
def trF (f : Nat → Int) (r c : Nat) : Nat → Int := fun j => if j % 4 < r ∨ (j % 4 = r ∧ j / 4 < c) then f (j % 4 * 4 + j / 4) else 0
theorem trF_step (f : Nat → Int) {r c : Nat} (hr : r < 4) : ∀ j, j < 16 → upd (trF f r c) (c * 4 + r) (f (r * 4 + c)) j = trF f r (c + 1) j := by
  intro j hj
  unfold upd trF
  by_cases e : j = c * 4 + r
  · subst e
    rw [if_pos rfl, if_pos (by omega), show (c * 4 + r) % 4 = r by omega, show (c * 4 + r) / 4 = c by omega]
  · rw [if_neg e]
    by_cases h : j % 4 < r ∨ (j % 4 = r ∧ j / 4 < c)
    · rw [if_pos h, if_pos (by omega)]
    · rw [if_neg h, if_neg (by omega)]
theorem trF_row (f : Nat → Int) (r : Nat) : ∀ j, j < 16 → trF f r 4 j = trF f (r + 1) 0 j := by
  intro j hj; unfold trF; split <;> split <;> first | rfl | omega
theorem trF_all (f : Nat → Int) : ∀ j, j < 16 → trF f 4 0 j = f (j % 4 * 4 + j / 4) := by
  intro j hj; unfold trF; rw [if_pos (by omega)]
theorem trF_zero (f : Nat → Int) (j : Nat) : trF f 0 0 j = 0 := by simp [trF]
/-- Mirroring, cell by cell. -/
def miF (f : Nat → Int) (r c : Nat) : Nat → Int := fun j => if j / 4 < r ∨ (j / 4 = r ∧ 3 - j % 4 < c) then f (j / 4 * 4 + (3 - j % 4)) else 0
theorem miF_step (f : Nat → Int) {r c k : Nat} (hc : c + k = 3) : ∀ j, j < 16 → upd (miF f r c) (r * 4 + k) (f (r * 4 + c)) j = miF f r (c + 1) j := by
  intro j hj
  unfold upd miF
  by_cases e : j = r * 4 + k
  · subst e
    rw [if_pos rfl, if_pos (by omega), show (r * 4 + k) / 4 = r by omega, show 3 - (r * 4 + k) % 4 = c by omega]
  · rw [if_neg e]
    by_cases h : j / 4 < r ∨ (j / 4 = r ∧ 3 - j % 4 < c)
    · rw [if_pos h, if_pos (by omega)]
    · rw [if_neg h, if_neg (by omega)]
theorem miF_row (f : Nat → Int) (r : Nat) : ∀ j, j < 16 → miF f r 4 j = miF f (r + 1) 0 j := by
  intro j hj; unfold miF; split <;> split <;> first | rfl | omega
theorem miF_all (f : Nat → Int) : ∀ j, j < 16 → miF f 4 0 j = f (j / 4 * 4 + (3 - j % 4)) := by
  intro j hj; unfold miF; rw [if_pos (by omega)]
theorem miF_zero (f : Nat → Int) (j : Nat) : miF f 0 0 j = 0 := by simp [miF]
theorem slideB_back (f : Nat → Int) (d : Nat) (g : Nat → Int) (h : ∀ i c, i < 4 → c < 4 → g (i * 4 + c) = (slid (lineF f d i) 4).row c) : ∀ j, j < 16 → backF g d j = slideB f d j := by
  intro j hj
  exact h _ _ (lineOf_lt hj) (placeOf_lt hj)
theorem viewF_line (f : Nat → Int) (d i : Nat) {c : Nat} (hc : c < 4) : viewF f d (i * 4 + c) = lineF f d i c := by
  unfold viewF lineF
  rw [show (i * 4 + c) / 4 = i by omega, show (i * 4 + c) % 4 = c by omega]

/-- A board of which i lines and k places of the next one have been written behind a slide. -/
def outF (f : Nat → Int) (d i k : Nat) : Nat → Int := fun j => if lineOf d j < i ∨ (lineOf d j = i ∧ placeOf d j < k) then slideB f d j else f j
theorem outF_zero (f : Nat → Int) (d j : Nat) : outF f d 0 0 j = f j := by simp [outF]
theorem outF_step (f : Nat → Int) (d : Nat) {i k : Nat} (hi : i < 4) (hk : k < 4) : ∀ j, j < 16 → upd (outF f d i k) (pos d i k) ((slid (lineF f d i) 4).row k) j = outF f d i (k + 1) j := by
  intro j hj
  have hl := lineOf_pos (d := d) hi hk
  have hp := placeOf_pos (d := d) hi hk
  unfold upd outF
  by_cases e : j = pos d i k
  · subst e
    rw [if_pos rfl, if_pos (by rw [hl, hp]; omega)]
    unfold slideB
    rw [hl, hp]
  · rw [if_neg e]
    by_cases h : lineOf d j < i ∨ (lineOf d j = i ∧ placeOf d j < k)
    · rw [if_pos h, if_pos (by omega)]
    · rw [if_neg h, if_neg]
      rintro (h2 | ⟨h2, h3⟩)
      · exact h (.inl h2)
      · have h4 : placeOf d j = k := by
          have : ¬ placeOf d j < k := fun h5 => h (.inr ⟨h2, h5⟩)
          omega
        exact e (by rw [← pos_of (d := d) hj, h2, h4])
theorem outF_row (f : Nat → Int) (d i : Nat) : ∀ j, j < 16 → outF f d i 4 j = outF f d (i + 1) 0 j := by
  intro j hj
  have := placeOf_lt (d := d) hj
  unfold outF
  by_cases h : lineOf d j < i ∨ (lineOf d j = i ∧ placeOf d j < 4)
  · rw [if_pos h, if_pos (by omega)]
  · rw [if_neg h, if_neg (by omega)]
theorem outF_all (f : Nat → Int) (d : Nat) : ∀ j, j < 16 → outF f d 4 0 j = slideB f d j := by
  intro j hj
  have := lineOf_lt (d := d) hj
  unfold outF
  rw [if_pos (.inl this)]

/-- The cells of a line, two numbers a cell. -/
def lineV (d i : Nat) : Nat → Int := fun j => if j % 2 = 0 then ((pos d i (j / 2) / 4 : Nat) : Int) else ((pos d i (j / 2) % 4 : Nat) : Int)
theorem lineV_row (d i k : Nat) : lineV d i (k * 2) = ((pos d i k / 4 : Nat) : Int) := by
  unfold lineV; rw [if_pos (by omega), show k * 2 / 2 = k by omega]
theorem lineV_col (d i k : Nat) : lineV d i (k * 2 + 1) = ((pos d i k % 4 : Nat) : Int) := by
  unfold lineV; rw [if_neg (by omega), show (k * 2 + 1) / 2 = k by omega]
/-- A board of which r lines, seen from the side d, have slid. -/
def seenF (f : Nat → Int) (d r : Nat) : Nat → Int := fun j => if j < r * 4 then (slid (lineF f d (j / 4)) 4).row (j % 4) else viewF f d j
/-- What a slide has made so far: no board yet, the score, the mergers. -/
def doneF (f : Nat → Int) (d r : Nat) : Nat → Int := fun j => if j = 16 then slideS f d r else if j = 17 then slideM f d r else 0
/-- What a slide makes: the board, the score, the mergers. -/
def slideV (f : Nat → Int) (d : Nat) : Nat → Int := fun j => if j < 16 then slideB f d j else if j = 16 then slideS f d 4 else slideM f d 4
theorem seen_slid (f : Nat → Int) (d r : Nat) : slid (fun c => viewF f d (r * 4 + c)) 4 = slid (lineF f d r) 4 := slid_congr 4 fun _ hc => viewF_line f d r hc
theorem seenF_zero (f : Nat → Int) (d j : Nat) : seenF f d 0 j = viewF f d j := by simp [seenF]
theorem doneF_zero (f : Nat → Int) (d j : Nat) : doneF f d 0 j = 0 := by unfold doneF slideS slideM; split <;> (try split) <;> rfl
theorem doneF_step (f : Nat → Int) (d r j : Nat) : upd (upd (doneF f d r) 16 (slideS f d r + (slid (lineF f d r) 4).sc)) 17 (slideM f d r + (slid (lineF f d r) 4).mg) j = doneF f d (r + 1) j := by
  unfold upd doneF
  by_cases h : j = 17
  · subst h; simp [slideM]
  · by_cases h2 : j = 16
    · subst h2; simp [slideS]
    · simp [h, h2]
theorem seenF_back (f : Nat → Int) (d : Nat) : ∀ j, j < 16 → backF (seenF f d 4) d j = slideB f d j :=
  slideB_back f d _ fun i c hi hc => by
    unfold seenF
    rw [if_pos (by omega), show (i * 4 + c) / 4 = i by omega, show (i * 4 + c) % 4 = c by omega]
theorem viewF_vd {f : Nat → Int} (hf : Vd f) (d : Nat) {r : Nat} (hr : r < 4) : VdRow (fun c => viewF f d (r * 4 + c)) := fun c hc => by
  have := lineF_vd hf d hr c hc
  rw [← viewF_line f d r hc] at this
  exact this
end Go.Proofs.Ytfjpdopljmilpaa.Plain
namespace Go.Proofs.Ytfjpdopljmilpaa.Plain

/-- What SlideBoard returns. -/
def SlideOk (f : Nat → Int) (d : Int) : Prop := Vd f ∧ 0 ≤ d ∧ d ≤ 3
instance (f : Nat → Int) (d : Int) : Decidable (SlideOk f d) := by unfold SlideOk; infer_instance
def slideRO (f : Nat → Int) (d : Int) : Bool := decide (SlideOk f d)
def slideRB (f : Nat → Int) (d : Int) : Nat → Int := if SlideOk f d then slideB f d.toNat else fun _ => 0
def slideRS (f : Nat → Int) (d : Int) : Int := if SlideOk f d then slideS f d.toNat 4 else 0
def slideRM (f : Nat → Int) (d : Int) : Int := if SlideOk f d then slideM f d.toNat 4 else 0
theorem slide_yes {f : Nat → Int} {d : Int} (h : SlideOk f d) : slideRO f d = true ∧ slideRB f d = slideB f d.toNat ∧ slideRS f d = slideS f d.toNat 4 ∧ slideRM f d = slideM f d.toNat 4 := by
  unfold slideRO slideRB slideRS slideRM; simp [h]
theorem slide_no {f : Nat → Int} {d : Int} (h : ¬ SlideOk f d) : slideRO f d = false ∧ slideRB f d = (fun _ => 0) ∧ slideRS f d = 0 ∧ slideRM f d = 0 := by
  unfold slideRO slideRB slideRS slideRM; simp [h]
end Go.Proofs.Ytfjpdopljmilpaa.Plain
namespace Go.Proofs.Ytfjpdopljmilpaa.Plain
/-- Four numbers, and sixteen, are the same. -/
def sameR (f g : Nat → Int) : Bool := (List.range 4).all fun c => f c == g c
def sameB (f g : Nat → Int) : Bool := (List.range 4).all fun r => sameR (fun c => f (r * 4 + c)) (fun c => g (r * 4 + c))
theorem sameR_iff {f g : Nat → Int} : sameR f g = true ↔ ∀ c, c < 4 → f c = g c := by simp [sameR]
theorem sameB_iff {f g : Nat → Int} : sameB f g = true ↔ ∀ j, j < 16 → f j = g j := by
  simp only [sameB, List.all_eq_true, List.mem_range, sameR_iff]
  constructor
  · intro h j hj
    have := h (j / 4) (by omega) (j % 4) (by omega)
    rwa [show j / 4 * 4 + j % 4 = j by omega] at this
  · intro h r hr c hc; exact h _ (by omega)
/-- The slide to the side d is a move. -/
def isMv (f : Nat → Int) (d : Nat) : Bool := !sameB (slideB f d) f
def movL (f : Nat → Int) : Nat → List Int
  | 0 => []
  | k + 1 => if isMv f k = true then movL f k ++ [(k : Int)] else movL f k
theorem mov_yes {f : Nat → Int} {k : Nat} (h : isMv f k = true) : movL f (k + 1) = movL f k ++ [(k : Int)] := by simp [movL, h]
theorem mov_no {f : Nat → Int} {k : Nat} (h : isMv f k = false) : movL f (k + 1) = movL f k := by simp [movL, h]
theorem movL_le (f : Nat → Int) : ∀ k, (movL f k).length ≤ k
  | 0 => Nat.le_refl _
  | k + 1 => by
    have := movL_le f k
    unfold movL
    split <;> simp <;> omega
/-- What MovesOf and IsOver return. -/
def movR (f : Nat → Int) : List Int := if Vd f then movL f 4 else []
theorem movR_yes {f : Nat → Int} (h : Vd f) : movR f = movL f 4 := by simp [movR, h]
theorem movR_no {f : Nat → Int} (h : ¬ Vd f) : movR f = [] := by simp [movR, h]
def overR (f : Nat → Int) : Bool := decide (Vd f ∧ (movL f 4).length = 0)
theorem over_yes {f : Nat → Int} (h : Vd f) (h0 : (movL f 4).length = 0) : overR f = true := by simp only [overR, h, h0, and_self, decide_true]
theorem over_not {f : Nat → Int} (h0 : (movL f 4).length ≠ 0) : overR f = false := by simp only [overR, h0, and_false, decide_false]
theorem over_no {f : Nat → Int} (h : ¬ Vd f) : overR f = false := by simp only [overR, h, false_and, decide_false]
end Go.Proofs.Ytfjpdopljmilpaa.Plain
namespace Go.Proofs.Ytfjpdopljmilpaa.Plain
/-- n numbers come before others: at the first place at which they differ. -/
def lessN (n : Nat) (f g : Nat → Int) : Prop := ∃ j, j < n ∧ (∀ i, i < j → f i = g i) ∧ f j < g j
theorem lessN_at {n j : Nat} {f g : Nat → Int} (hj : j < n) (h : ∀ i, i < j → f i = g i) (hd : f j ≠ g j) : lessN n f g ↔ f j < g j := by
  constructor
  · rintro ⟨k, hk, h2, h3⟩
    rcases Nat.lt_trichotomy k j with l | l | l
    · have := h k l; omega
    · subst l; exact h3
    · exact absurd (h2 j l) hd
  · intro l; exact ⟨j, hj, h, l⟩
theorem lessN_none {n : Nat} {f g : Nat → Int} (h : ∀ i, i < n → f i = g i) : ¬ lessN n f g := by
  rintro ⟨k, hk, _, h3⟩
  have := h k hk; omega
noncomputable instance (n : Nat) (f g : Nat → Int) : Decidable (lessN n f g) := Classical.propDecidable _
noncomputable def lessB (f g : Nat → Int) : Bool := decide (lessN 16 f g)
theorem lessB_at {j : Nat} {f g : Nat → Int} (hj : j < 16) (h : ∀ i, i < j → f i = g i) (hd : f j ≠ g j) : lessB f g = decide (f j < g j) := by
  unfold lessB
  rw [Bool.eq_iff_iff, decide_eq_true_iff, decide_eq_true_iff, lessN_at hj h hd]
theorem lessB_none {f g : Nat → Int} (h : ∀ i, i < 16 → f i = g i) : lessB f g = false := by
  unfold lessB
  rw [decide_eq_false_iff_not]; exact lessN_none h
/-- What LessBoard returns. -/
noncomputable def lessR (f g : Nat → Int) : Bool := if Vd f ∧ Vd g then lessB f g else false
def lessO (f g : Nat → Int) : Bool := decide (Vd f ∧ Vd g)
theorem less_yes {f g : Nat → Int} (h : Vd f) (k : Vd g) : lessR f g = lessB f g ∧ lessO f g = true := by
  simp [lessR, lessO, h, k]
theorem less_no1 {f g : Nat → Int} (h : ¬ Vd f) : lessR f g = false ∧ lessO f g = false := by
  simp [lessR, lessO, h]
theorem less_no2 {f g : Nat → Int} (h : ¬ Vd g) : lessR f g = false ∧ lessO f g = false := by
  simp [lessR, lessO, h]
/-- The first place at which two rows differ. -/
theorem row_first {f g : Nat → Int} (h : sameR f g = false) : ∃ c, c < 4 ∧ (∀ i, i < c → f i = g i) ∧ f c ≠ g c := by
  have hn : ¬ ∀ c, c < 4 → f c = g c := fun k => by rw [sameR_iff.2 k] at h; cases h
  by_cases h0 : f 0 = g 0
  · by_cases h1 : f 1 = g 1
    · by_cases h2 : f 2 = g 2
      · by_cases h3 : f 3 = g 3
        · exact absurd (fun c hc => by rcases (by omega : c = 0 ∨ c = 1 ∨ c = 2 ∨ c = 3) with rfl | rfl | rfl | rfl <;> assumption) hn
        · exact ⟨3, by omega, fun i hi => by rcases (by omega : i = 0 ∨ i = 1 ∨ i = 2) with rfl | rfl | rfl <;> assumption, h3⟩
      · exact ⟨2, by omega, fun i hi => by rcases (by omega : i = 0 ∨ i = 1) with rfl | rfl <;> assumption, h2⟩
    · exact ⟨1, by omega, fun i hi => by obtain rfl : i = 0 := by omega
                                         exact h0, h1⟩
  · exact ⟨0, by omega, fun i hi => by omega, h0⟩
end Go.Proofs.Ytfjpdopljmilpaa.Plain
namespace Go.Proofs.Ytfjpdopljmilpaa.Plain
theorem lessN_trans {n : Nat} {f g h : Nat → Int} : lessN n f g → lessN n g h → lessN n f h := by
  rintro ⟨j, hj, e1, l1⟩ ⟨k, hk, e2, l2⟩
  rcases Nat.lt_trichotomy j k with l | l | l
  · exact ⟨j, hj, fun i hi => (e1 i hi).trans (e2 i (by omega)), by rw [← e2 j l]; exact l1⟩
  · subst l; exact ⟨j, hj, fun i hi => (e1 i hi).trans (e2 i hi), by omega⟩
  · exact ⟨k, hk, fun i hi => (e1 i (by omega)).trans (e2 i hi), by rw [e1 k l]; exact l2⟩
theorem lessN_total {f g : Nat → Int} : ∀ n, (∀ i, i < n → f i = g i) ∨ lessN n f g ∨ lessN n g f
  | 0 => Or.inl fun i hi => by omega
  | n + 1 => by
    rcases lessN_total (f := f) (g := g) n with h | ⟨j, hj, h⟩ | ⟨j, hj, h⟩
    · rcases Int.lt_trichotomy (f n) (g n) with l | l | l
      · exact Or.inr (Or.inl ⟨n, by omega, h, l⟩)
      · exact Or.inl fun i hi => by
          rcases (by omega : i < n ∨ i = n) with q | rfl
          · exact h i q
          · exact l
      · exact Or.inr (Or.inr ⟨n, by omega, fun i hi => (h i hi).symm, l⟩)
    · exact Or.inr (Or.inl ⟨j, by omega, h⟩)
    · exact Or.inr (Or.inr ⟨j, by omega, h⟩)
theorem lessN_congr {n : Nat} {f f' g g' : Nat → Int} (hf : ∀ i, i < n → f i = f' i) (hg : ∀ i, i < n → g i = g' i) : lessN n f g ↔ lessN n f' g' := by
  constructor
  · rintro ⟨j, hj, e, l⟩; exact ⟨j, hj, fun i hi => by rw [← hf i (by omega), ← hg i (by omega)]; exact e i hi, by rw [← hf j hj, ← hg j hj]; exact l⟩
  · rintro ⟨j, hj, e, l⟩; exact ⟨j, hj, fun i hi => by rw [hf i (by omega), hg i (by omega)]; exact e i hi, by rw [hf j hj, hg j hj]; exact l⟩

/-- The first n numbers, and the numbers of a list. -/
def cl (n : Nat) (f : Nat → Int) : List Int := (List.range n).map f
def fn (l : List Int) : Nat → Int := fun i => l.getD i 0
theorem cl_len (n : Nat) (f : Nat → Int) : (cl n f).length = n := by simp [cl]
theorem fn_cl {n : Nat} (f : Nat → Int) : ∀ i, i < n → fn (cl n f) i = f i := fun i hi => by simp [fn, cl, List.getD, hi]
theorem cl_fn {n : Nat} {l : List Int} (h : l.length = n) : cl n (fn l) = l := by
  refine List.ext_getElem (by rw [cl_len, h]) fun i h1 h2 => ?_
  simp [cl, fn, List.getD, h2]
theorem cl_inj {n : Nat} {f g : Nat → Int} : cl n f = cl n g ↔ ∀ i, i < n → f i = g i := by
  constructor
  · intro h i hi
    have := congrArg (fun l => fn l i) h
    simp only [fn_cl _ i hi] at this
    exact this
  · intro h
    refine List.ext_getElem (by rw [cl_len, cl_len]) fun i h1 h2 => ?_
    have : i < n := by rw [cl_len] at h1; exact h1
    simp [cl, h i this]

/-- The order of lists of n numbers. -/
noncomputable def lt (n : Nat) (a b : List Int) : Bool := decide (lessN n (fn a) (fn b))
theorem lt_irrefl (n : Nat) (a : List Int) : lt n a a = false := by unfold lt; rw [decide_eq_false_iff_not]; exact lessN_none fun _ _ => rfl
theorem lt_trans {n : Nat} {a b c : List Int} (h : lt n a b = true) (k : lt n b c = true) : lt n a c = true := by
  unfold lt at *; rw [decide_eq_true_iff] at *; exact lessN_trans h k
theorem lt_asym {n : Nat} {a b : List Int} (h : lt n a b = true) : lt n b a = false := by
  rcases hb : lt n b a with _ | _
  · rfl
  · have := lt_trans h hb; rw [lt_irrefl] at this; cases this
theorem lt_total {n : Nat} {a b : List Int} (ha : a.length = n) (hb : b.length = n) (h : lt n a b = false) (k : lt n b a = false) : a = b := by
  unfold lt at *; rw [decide_eq_false_iff_not] at *
  rcases lessN_total (f := fn a) (g := fn b) n with e | e | e
  · rw [← cl_fn ha, ← cl_fn hb]; exact cl_inj.2 e
  · exact absurd e h
  · exact absurd e k
theorem lt_cl (n : Nat) (f g : Nat → Int) : lt n (cl n f) (cl n g) = decide (lessN n f g) := by
  unfold lt; rw [Bool.eq_iff_iff, decide_eq_true_iff, decide_eq_true_iff]; exact lessN_congr (fn_cl f) (fn_cl g)

/-! Lists in order -/
set_option linter.unusedSectionVars false
variable {α : Type} [DecidableEq α] (l : α → α → Bool)
def SS (L : List α) : Prop := L.Pairwise fun x y => l x y = true
/-- The place at which b stands, or belongs. -/
def plcL (b : α) : List α → Nat
  | [] => 0
  | x :: xs => if l x b = true then plcL b xs + 1 else 0
def insL (L : List α) (b : α) : List α := if L[plcL l b L]? = some b then L else L.take (plcL l b L) ++ b :: L.drop (plcL l b L)
theorem plc_le (b : α) : ∀ L : List α, plcL l b L ≤ L.length
  | [] => Nat.le_refl _
  | x :: xs => by
    have := plc_le b xs
    unfold plcL; split <;> simp <;> omega
theorem plcL_lt (b : α) : ∀ (L : List α) (i : Nat) (x : α), i < plcL l b L → L[i]? = some x → l x b = true
  | [], i, x, h, _ => by simp [plcL] at h
  | y :: ys, i, x, h, hx => by
    unfold plcL at h
    split at h
    · rename_i hy
      cases i with
      | zero => simp at hx; subst hx; exact hy
      | succ i => exact plcL_lt b ys i x (by omega) (by simpa using hx)
    · omega
theorem plc_at (b : α) : ∀ (L : List α) (x : α), L[plcL l b L]? = some x → l x b = false
  | [], x, h => by simp [plcL] at h
  | y :: ys, x, h => by
    unfold plcL at h
    split at h
    · exact plc_at b ys x (by simpa using h)
    · rename_i hy
      simp at h; subst h; simpa using hy
theorem plc_eq (b : α) : ∀ (L : List α) (n : Nat), n ≤ L.length → (∀ i x, i < n → L[i]? = some x → l x b = true) → (∀ x, L[n]? = some x → l x b = false) → plcL l b L = n
  | [], n, hn, _, _ => by simp at hn; subst hn; rfl
  | y :: ys, n, hn, h1, h2 => by
    cases n with
    | zero =>
      have := h2 y (by simp)
      simp [plcL, this]
    | succ n =>
      have hy := h1 0 y (by omega) (by simp)
      have := plc_eq b ys n (by simpa using hn) (fun i x hi hx => h1 (i + 1) x (by omega) (by simpa using hx)) (fun x hx => h2 x (by simpa using hx))
      simp [plcL, hy, this]
theorem ins_mem (L : List α) (b x : α) : x ∈ insL l L b ↔ x ∈ L ∨ x = b := by
  unfold insL
  split
  · rename_i h
    have hb := List.mem_of_getElem? h
    constructor
    · exact Or.inl
    · rintro (h | rfl)
      · exact h
      · exact hb
  · constructor
    · intro h
      rcases List.mem_append.1 h with h | h
      · exact Or.inl (List.mem_of_mem_take h)
      · rcases List.mem_cons.1 h with h | h
        · exact Or.inr h
        · exact Or.inl (List.mem_of_mem_drop h)
    · rintro (h | rfl)
      · rw [← List.take_append_drop (plcL l b L) L] at h
        rcases List.mem_append.1 h with h | h
        · exact List.mem_append.2 (Or.inl h)
        · exact List.mem_append.2 (Or.inr (List.mem_cons.2 (Or.inr h)))
      · simp
theorem ins_len (L : List α) (b : α) : (insL l L b).length = if L[plcL l b L]? = some b then L.length else L.length + 1 := by
  have := plc_le l b L
  unfold insL
  split
  · rfl
  · simp; omega
theorem ins_same {L : List α} {b : α} (h : L[plcL l b L]? = some b) : insL l L b = L := by simp [insL, h]
theorem ins_new {L : List α} {b : α} (h : ¬ L[plcL l b L]? = some b) : insL l L b = L.take (plcL l b L) ++ b :: L.drop (plcL l b L) := by simp [insL, h]
theorem ins_ss (htr : ∀ x y z, l x y = true → l y z = true → l x z = true) (L : List α) (b : α) (hto : ∀ x, x ∈ L → l x b = false → l b x = false → x = b) (h : SS l L) : SS l (insL l L b) := by
  by_cases hp : L[plcL l b L]? = some b
  · rw [ins_same l hp]; exact h
  · rw [ins_new l hp]
    have h' : SS l (L.take (plcL l b L) ++ L.drop (plcL l b L)) := by rw [List.take_append_drop]; exact h
    obtain ⟨a1, a2, a3⟩ := List.pairwise_append.1 h'
    have small : ∀ x, x ∈ L.take (plcL l b L) → l x b = true := fun x hx => by
      obtain ⟨i, hi⟩ := List.getElem?_of_mem hx
      rw [List.getElem?_take] at hi
      split at hi
      · rename_i hlt; exact plcL_lt l b L i x hlt hi
      · cases hi
    have great : ∀ x, x ∈ L.drop (plcL l b L) → l b x = true := fun x hx => by
      rcases hd : L.drop (plcL l b L) with _ | ⟨y, ys⟩
      · rw [hd] at hx; cases hx
      · have hy : L[plcL l b L]? = some y := by
          have : (L.drop (plcL l b L))[0]? = some y := by rw [hd]; rfl
          simpa using this
        have hyb : l b y = true := by
          have f1 := plc_at l b L y hy
          rcases h2 : l b y with _ | _
          · have := hto y (List.mem_of_getElem? hy) f1 h2
            subst this; exact absurd hy hp
          · rfl
        rw [hd] at hx a2
        rcases List.mem_cons.1 hx with rfl | hx
        · exact hyb
        · exact htr _ _ _ hyb ((List.pairwise_cons.1 a2).1 x hx)
    refine List.pairwise_append.2 ⟨a1, List.pairwise_cons.2 ⟨great, a2⟩, fun x hx y hy => ?_⟩
    rcases List.mem_cons.1 hy with rfl | hy
    · exact small x hx
    · exact a3 x hx y hy
/-- There is one list in order of the same members. -/
theorem ss_unique (hir : ∀ x, l x x = false) (htr : ∀ x y z, l x y = true → l y z = true → l x z = true) : ∀ (A B : List α), SS l A → SS l B → (∀ x, x ∈ A ↔ x ∈ B) → A = B
  | [], [], _, _, _ => rfl
  | [], b :: B, _, _, h => by have := (h b).2 (by simp); cases this
  | a :: A, [], _, _, h => by have := (h a).1 (by simp); cases this
  | a :: A, b :: B, hA, hB, h => by
    obtain ⟨a1, a2⟩ := List.pairwise_cons.1 hA
    obtain ⟨b1, b2⟩ := List.pairwise_cons.1 hB
    have e : a = b := by
      rcases List.mem_cons.1 ((h a).1 (by simp)) with e | e
      · exact e
      · rcases List.mem_cons.1 ((h b).2 (by simp)) with e' | e'
        · exact e'.symm
        · have := htr _ _ _ (b1 a e) (a1 b e'); rw [hir] at this; cases this
    subst e
    refine congrArg (a :: ·) (ss_unique hir htr A B a2 b2 fun x => ?_)
    constructor
    · intro hx
      rcases List.mem_cons.1 ((h x).1 (List.mem_cons.2 (Or.inr hx))) with e | e
      · subst e; have := a1 x hx; rw [hir] at this; cases this
      · exact e
    · intro hx
      rcases List.mem_cons.1 ((h x).2 (List.mem_cons.2 (Or.inr hx))) with e | e
      · subst e; have := b1 x hx; rw [hir] at this; cases this
      · exact e
/-- A list without what is the same as the one ahead. -/
def dedN (L : List α) : Nat → List α
  | 0 => []
  | k + 1 => match L[k]? with
    | none => dedN L k
    | some x => if 0 < k ∧ L[k - 1]? = some x then dedN L k else dedN L k ++ [x]
theorem ded_yes {L : List α} {k : Nat} {x : α} (h : L[k]? = some x) (hd : 0 < k ∧ L[k - 1]? = some x) : dedN L (k + 1) = dedN L k := by simp only [dedN, h]; rw [if_pos hd]
theorem ded_no {L : List α} {k : Nat} {x : α} (h : L[k]? = some x) (hd : ¬ (0 < k ∧ L[k - 1]? = some x)) : dedN L (k + 1) = dedN L k ++ [x] := by simp only [dedN, h]; rw [if_neg hd]
theorem ded_mem (L : List α) : ∀ k x, x ∈ dedN L k ↔ ∃ i, i < k ∧ L[i]? = some x
  | 0, x => by simp [dedN]
  | k + 1, x => by
    rcases h : L[k]? with _ | y
    · have e : dedN L (k + 1) = dedN L k := by simp [dedN, h]
      rw [e, ded_mem L k x]
      constructor
      · rintro ⟨i, hi, q⟩; exact ⟨i, by omega, q⟩
      · rintro ⟨i, hi, q⟩
        rcases (by omega : i < k ∨ i = k) with p | rfl
        · exact ⟨i, p, q⟩
        · rw [h] at q; cases q
    · by_cases hd : 0 < k ∧ L[k - 1]? = some y
      · rw [ded_yes h hd, ded_mem L k x]
        constructor
        · rintro ⟨i, hi, e⟩; exact ⟨i, by omega, e⟩
        · rintro ⟨i, hi, e⟩
          rcases (by omega : i < k ∨ i = k) with q | rfl
          · exact ⟨i, q, e⟩
          · rw [h] at e; cases e; exact ⟨i - 1, by omega, hd.2⟩
      · rw [ded_no h hd, List.mem_append, ded_mem L k x]
        constructor
        · rintro (⟨i, hi, e⟩ | e)
          · exact ⟨i, by omega, e⟩
          · obtain rfl : x = y := by simpa using e
            exact ⟨k, by omega, h⟩
        · rintro ⟨i, hi, e⟩
          rcases (by omega : i < k ∨ i = k) with q | rfl
          · exact Or.inl ⟨i, q, e⟩
          · rw [h] at e; cases e; exact Or.inr (by simp)
theorem ded_len (L : List α) : ∀ k, (dedN L k).length ≤ k
  | 0 => Nat.le_refl _
  | k + 1 => by
    have := ded_len L k
    unfold dedN
    split
    · omega
    · split
      · omega
      · simp; omega
/-- Of a list in which none comes after a greater one. -/
theorem ded_ss (htr : ∀ x y z, l x y = true → l y z = true → l x z = true) (L : List α) (hto : ∀ x y, x ∈ L → y ∈ L → l x y = false → l y x = false → x = y) (hnt : ∀ x y z, x ∈ L → y ∈ L → z ∈ L → l y x = false → l y z = true → l x z = true ∨ x = y)
    (h : L.Pairwise fun x y => (!l y x) = true) : ∀ k, SS l (dedN L k)
  | 0 => List.Pairwise.nil
  | k + 1 => by
    rcases hk : L[k]? with _ | y
    · have e : dedN L (k + 1) = dedN L k := by simp [dedN, hk]
      rw [e]; exact ded_ss htr L hto hnt h k
    · by_cases hd : 0 < k ∧ L[k - 1]? = some y
      · rw [ded_yes hk hd]; exact ded_ss htr L hto hnt h k
      · rw [ded_no hk hd]
        refine List.pairwise_append.2 ⟨ded_ss htr L hto hnt h k, List.pairwise_singleton _ _, fun x hx z hz => ?_⟩
        obtain rfl : z = y := by simpa using hz
        obtain ⟨i, hi, e⟩ := (ded_mem L k x).1 hx
        have hkl : k < L.length := (List.getElem?_eq_some_iff.1 hk).1
        obtain ⟨u, hu⟩ : ∃ u, L[k - 1]? = some u := ⟨L[k - 1]'(by omega), by simp⟩
        have hn : ∀ i j (x y : α), i < j → L[i]? = some x → L[j]? = some y → l y x = false := fun i j x y hij hx hy => by
          obtain ⟨h1, rfl⟩ := List.getElem?_eq_some_iff.1 hx
          obtain ⟨h2, rfl⟩ := List.getElem?_eq_some_iff.1 hy
          have := List.pairwise_iff_getElem.1 h i j h1 h2 hij
          simpa using this
        have hne : u ≠ z := fun q => hd ⟨by omega, by rw [hu, q]⟩
        have huz : l u z = true := by
          have f1 := hn (k - 1) k u z (by omega) hu hk
          rcases f2 : l u z with _ | _
          · exact absurd (hto u z (List.mem_of_getElem? hu) (List.mem_of_getElem? hk) f2 f1) hne
          · rfl
        rcases (by omega : i < k - 1 ∨ i = k - 1) with q | q
        · rcases hnt x u z (List.mem_of_getElem? e) (List.mem_of_getElem? hu) (List.mem_of_getElem? hk) (hn i (k - 1) x u q e hu) huz with r | r
          · exact r
          · rw [r]; exact huz
        · subst q; rw [hu] at e; cases e; exact huz
end Go.Proofs.Ytfjpdopljmilpaa.Plain
namespace Go.Proofs.Ytfjpdopljmilpaa.Plain
def vdO (f : Nat → Int) : Bool := decide (Vd f)
theorem vdO_yes {f : Nat → Int} (h : Vd f) : vdO f = true := by simp [vdO, h]
theorem vdO_no {f : Nat → Int} (h : ¬ Vd f) : vdO f = false := by simp [vdO, h]
/-- How many of the first k cells have each number. -/
def cntF (f : Nat → Int) : Nat → Nat → Int
  | 0 => fun _ => 0
  | k + 1 => fun v => cntF f k v + (if f k = (v : Int) then 1 else 0)
theorem cntF_bd (f : Nat → Int) : ∀ k v, 0 ≤ cntF f k v ∧ cntF f k v ≤ k
  | 0, v => by simp [cntF]
  | k + 1, v => by have := cntF_bd f k v; unfold cntF; split <;> omega
theorem cntF_step (f : Nat → Int) (k v j : Nat) (h : f k = (v : Int)) : upd (cntF f k) v (cntF f k v + 1) j = cntF f (k + 1) j := by
  show _ = cntF f k j + (if f k = (j : Int) then 1 else 0)
  unfold upd
  by_cases e : j = v
  · subst e; rw [if_pos rfl, if_pos h]
  · rw [if_neg e, if_neg (by omega), Int.add_zero]
def cntR (f : Nat → Int) : Nat → Int := if Vd f then cntF f 16 else fun _ => 0
theorem cntR_yes {f : Nat → Int} (h : Vd f) : cntR f = cntF f 16 := by simp [cntR, h]
theorem cntR_no {f : Nat → Int} (h : ¬ Vd f) : cntR f = fun _ => 0 := by simp [cntR, h]
/-- The greatest of the first k cells and its place. -/
def hiF (f : Nat → Int) : Nat → Int × Nat
  | 0 => (0, 0)
  | k + 1 => if (hiF f k).1 < f k then (f k, k) else hiF f k
theorem hiF_bd {f : Nat → Int} (hf : Vd f) : ∀ k, k ≤ 16 → 0 ≤ (hiF f k).1 ∧ (hiF f k).1 ≤ 17
  | 0, _ => by simp [hiF]
  | k + 1, h => by
    have h1 := hiF_bd hf k (by omega)
    have h2 := hf k (by omega)
    by_cases e : (hiF f k).1 < f k
    · rw [hiF, if_pos e]; exact ⟨h2.1, h2.2⟩
    · rw [hiF, if_neg e]; exact h1
theorem hiF_yes {f : Nat → Int} {k : Nat} (h : (hiF f k).1 < f k) : hiF f (k + 1) = (f k, k) := by rw [hiF, if_pos h]
theorem hiF_no {f : Nat → Int} {k : Nat} (h : ¬ (hiF f k).1 < f k) : hiF f (k + 1) = hiF f k := by rw [hiF, if_neg h]
/-- A place's cell, two numbers. -/
def cellF (p : Nat) : Nat → Int := fun i => if i = 0 then ((p / 4 : Nat) : Int) else ((p % 4 : Nat) : Int)
def hiT (f : Nat → Int) : Int := if Vd f then (hiF f 16).1 else 0
def hiC (f : Nat → Int) : Nat → Int := if Vd f then cellF (hiF f 16).2 else fun _ => 0
def hiO (f : Nat → Int) : Bool := if Vd f then decide (0 < (hiF f 16).1) else false
theorem hi_yes {f : Nat → Int} (h : Vd f) : hiT f = (hiF f 16).1 ∧ hiC f = cellF (hiF f 16).2 ∧ hiO f = decide (0 < (hiF f 16).1) := by simp [hiT, hiC, hiO, h]
theorem hi_no {f : Nat → Int} (h : ¬ Vd f) : hiT f = 0 ∧ hiC f = (fun _ => 0) ∧ hiO f = false := by simp [hiT, hiC, hiO, h]
end Go.Proofs.Ytfjpdopljmilpaa.Plain
namespace Go.Proofs.Ytfjpdopljmilpaa.Plain
/-- The empty cells among the first k cells, each told by its row and its column. -/
def empL (f : Nat → Int) : Nat → List Int
  | 0 => []
  | k + 1 => if f k = 0 then empL f k ++ [((k / 4 : Nat) : Int), ((k % 4 : Nat) : Int)] else empL f k
/-- Their number. -/
def empN (f : Nat → Int) : Nat → Nat
  | 0 => 0
  | k + 1 => if f k = 0 then empN f k + 1 else empN f k
theorem emp_yes {f : Nat → Int} {k : Nat} (h : f k = 0) : empL f (k + 1) = empL f k ++ [((k / 4 : Nat) : Int), ((k % 4 : Nat) : Int)] ∧ empN f (k + 1) = empN f k + 1 := by
  simp [empL, empN, h]
theorem emp_no {f : Nat → Int} {k : Nat} (h : f k ≠ 0) : empL f (k + 1) = empL f k ∧ empN f (k + 1) = empN f k := by
  simp [empL, empN, h]
theorem empN_le (f : Nat → Int) (k : Nat) : empN f k ≤ k := by
  induction k with
  | zero => exact Nat.le_refl _
  | succ k ih => unfold empN; split <;> omega
theorem emp_len (f : Nat → Int) (k : Nat) : (empL f k).length = empN f k * 2 := by
  induction k with
  | zero => rfl
  | succ k ih => unfold empL empN; split <;> simp [ih]; omega
theorem empN_congr {f g : Nat → Int} {k : Nat} (h : ∀ j, j < k → f j = g j) : empN f k = empN g k := by
  induction k with
  | zero => rfl
  | succ k ih => unfold empN; rw [ih fun j hj => h j (by omega), h k (by omega)]
end Go.Proofs.Ytfjpdopljmilpaa.Plain
namespace Go.Proofs.Ytfjpdopljmilpaa.Plain
theorem empN_step (f : Nat → Int) (k : Nat) : empN f (k + 1) = empN f k + if f k = 0 then 1 else 0 := by
  show (if f k = 0 then empN f k + 1 else empN f k) = _
  split <;> simp
theorem slid_zero {f : Nat → Int} : ∀ k, ((slid f k).n : Int) + (slid f k).mg + empN f k = k
  | 0 => rfl
  | k + 1 => by
    have ih := slid_zero (f := f) k
    rw [empN_step]
    show ((slidStep (slid f k) (f k)).n : Int) + (slidStep (slid f k) (f k)).mg + _ = _
    unfold slidStep
    by_cases h : f k = 0
    · simp only [h, if_true]; omega
    · simp only [if_neg h]
      split
      · show ((slid f k).n : Int) + ((slid f k).mg + 1) + _ = _
        omega
      · show (((slid f k).n + 1 : Nat) : Int) + (slid f k).mg + _ = _
        omega
theorem row_zero {s : Slid} {m : Nat} (h : SlidOk s m) : ∀ k, (empN s.row k : Int) = if k ≤ s.n then 0 else (k : Int) - s.n
  | 0 => by simp [empN]
  | k + 1 => by
    have ih := row_zero h k
    rw [empN_step]
    by_cases hk : k < s.n
    · have := h.full k hk
      rw [if_pos (by omega)] at ih
      rw [if_neg this, if_pos (by omega)]
      omega
    · have := h.rest k (by omega)
      rw [if_pos this, if_neg (by omega)]
      split at ih <;> omega
theorem line_zero {f : Nat → Int} (hf : VdRow f) : (empN (slid f 4).row 4 : Int) = empN f 4 + (slid f 4).mg := by
  have h1 := slid_zero (f := f) 4
  have h2 := slid_ok hf 4 (Nat.le_refl _)
  have h3 := row_zero h2 4
  have h4 := h2.n_le
  split at h3 <;> omega
theorem emp_lines (g : Nat → Int) {d : Nat} (hd : d < 4) : empN g 16 = empN (lineF g d 0) 4 + empN (lineF g d 1) 4 + empN (lineF g d 2) 4 + empN (lineF g d 3) 4 := by
  rcases (by omega : d = 0 ∨ d = 1 ∨ d = 2 ∨ d = 3) with rfl | rfl | rfl | rfl <;>
  · simp only [empN_step, show ∀ f, empN f 0 = 0 from fun _ => rfl, lineF, pos]
    simp only [Nat.reduceEqDiff, if_true, if_false, Nat.reduceMul, Nat.reduceAdd, Nat.reduceSub, Nat.zero_add, Nat.zero_mul, Nat.add_zero]
    omega
theorem slideB_line (f : Nat → Int) (d : Nat) {i : Nat} (hi : i < 4) : empN (lineF (slideB f d) d i) 4 = empN (slid (lineF f d i) 4).row 4 :=
  empN_congr fun k hk => by
    show (slid (lineF f d (lineOf d (pos d i k))) 4).row (placeOf d (pos d i k)) = _
    rw [lineOf_pos hi hk, placeOf_pos hi hk]
/-- A slide makes as many mergers as cells get empty. -/
theorem emp_slide {f : Nat → Int} (hf : Vd f) {d : Nat} (hd : d < 4) : (empN (slideB f d) 16 : Int) = empN f 16 + slideM f d 4 := by
  rw [emp_lines _ hd, emp_lines f hd, slideB_line _ _ (by omega), slideB_line _ _ (by omega), slideB_line _ _ (by omega), slideB_line _ _ (by omega)]
  have a0 := line_zero (lineF_vd hf d (i := 0) (by omega))
  have a1 := line_zero (lineF_vd hf d (i := 1) (by omega))
  have a2 := line_zero (lineF_vd hf d (i := 2) (by omega))
  have a3 := line_zero (lineF_vd hf d (i := 3) (by omega))
  have e : slideM f d 4 = 0 + (slid (lineF f d 0) 4).mg + (slid (lineF f d 1) 4).mg + (slid (lineF f d 2) 4).mg + (slid (lineF f d 3) 4).mg := rfl
  rw [e]
  omega
end Go.Proofs.Ytfjpdopljmilpaa.Plain
namespace Go.Proofs.Ytfjpdopljmilpaa.Plain
/-- The place from which the form k takes what it has at place j. -/
def plc (k j : Nat) : Nat :=
  if k = 0 then j else if k = 1 then (3 - j % 4) * 4 + j / 4 else if k = 2 then (3 - j / 4) * 4 + (3 - j % 4) else if k = 3 then j % 4 * 4 + (3 - j / 4)
  else if k = 4 then j / 4 * 4 + (3 - j % 4) else if k = 5 then j % 4 * 4 + j / 4 else if k = 6 then (3 - j / 4) * 4 + j % 4 else (3 - j % 4) * 4 + (3 - j / 4)
theorem plc_lt (k : Nat) {j : Nat} (hj : j < 16) : plc k j < 16 := by
  unfold plc; repeat' split
  all_goals omega
/-- The form k of a board. -/
def formF (f : Nat → Int) (k : Nat) : Nat → Int := fun j => f (plc k j)
theorem form_zero (f : Nat → Int) : formF f 0 = f := rfl
theorem form_vd {f : Nat → Int} (h : Vd f) (k : Nat) : Vd (formF f k) := fun _ hj => h _ (plc_lt k hj)
theorem form_congr {f g : Nat → Int} (k : Nat) (h : ∀ j, j < 16 → f j = g j) : ∀ j, j < 16 → formF f k j = formF g k j := fun _ hj => h _ (plc_lt k hj)
/-- The number of the form that is the form m of the form k. -/
def behN (k m : Nat) : Nat := ((if k < 4 then k + m % 4 else k + (4 - m % 4)) % 4) + (if (k < 4) = (m < 4) then 0 else 4)
def backN (k : Nat) : Nat := if k < 4 then (4 - k) % 4 else k
theorem beh_lt : ∀ k, k < 8 → ∀ m, m < 8 → behN k m < 8 := by decide
theorem back_lt : ∀ k, k < 8 → backN k < 8 := by decide
set_option maxRecDepth 100000 in
theorem plc_beh : ∀ k, k < 8 → ∀ m, m < 8 → ∀ j, j < 16 → plc k (plc m j) = plc (behN k m) j := by decide
theorem form_beh (f : Nat → Int) {k m : Nat} (hk : k < 8) (hm : m < 8) : ∀ j, j < 16 → formF (formF f k) m j = formF f (behN k m) j := by
  intro j hj
  show f (plc k (plc m j)) = f (plc (behN k m) j)
  rw [plc_beh k hk m hm j hj]
theorem beh_back : ∀ k, k < 8 → behN k (backN k) = 0 ∧ behN (backN k) k = 0 := by decide
theorem form_back (f : Nat → Int) {k : Nat} (hk : k < 8) : ∀ j, j < 16 → formF (formF f k) (backN k) j = f j := by
  intro j hj
  rw [form_beh f hk (back_lt k hk) j hj, (beh_back k hk).1]; rfl
/-- A board turned clockwise by a quarter n times. -/
def qrt (f : Nat → Int) (n : Nat) : Nat → Int := formF f (n % 4)
theorem qrt_step (f : Nat → Int) (n : Nat) (hn : n < 4) : ∀ j, j < 16 → qrt f n ((3 - j % 4) * 4 + j / 4) = qrt f (n + 1) j := by
  intro j hj
  have h := form_beh f (k := n % 4) (m := 1) (by omega) (by omega) j hj
  have e : behN (n % 4) 1 = (n + 1) % 4 := by
    rcases (by omega : n = 0 ∨ n = 1 ∨ n = 2 ∨ n = 3) with rfl | rfl | rfl | rfl <;> rfl
  rw [e] at h
  exact h
theorem qrt_mirror (f : Nat → Int) {k : Nat} (h0 : 4 ≤ k) (h1 : k < 8) : ∀ j, j < 16 → formF f (k % 4) (j / 4 * 4 + (3 - j % 4)) = formF f k j := by
  intro j hj
  have h := form_beh f (k := k % 4) (m := 4) (by omega) (by omega) j hj
  have e : behN (k % 4) 4 = k := by
    rcases (by omega : k = 4 ∨ k = 5 ∨ k = 6 ∨ k = 7) with rfl | rfl | rfl | rfl <;> rfl
  rw [e] at h
  exact h
/-- What FormBoard returns. -/
def FormOk (f : Nat → Int) (k : Int) : Prop := Vd f ∧ 0 ≤ k ∧ k ≤ 7
instance (f : Nat → Int) (k : Int) : Decidable (FormOk f k) := by unfold FormOk; infer_instance
def formR (f : Nat → Int) (k : Int) : Nat → Int := if FormOk f k then formF f k.toNat else fun _ => 0
def formO (f : Nat → Int) (k : Int) : Bool := decide (FormOk f k)
theorem form_yes {f : Nat → Int} {k : Int} (h : FormOk f k) : formR f k = formF f k.toNat ∧ formO f k = true := by simp [formR, formO, h]
theorem form_no {f : Nat → Int} {k : Int} (h : ¬ FormOk f k) : formR f k = (fun _ => 0) ∧ formO f k = false := by simp [formR, formO, h]
/-- What FormBehind, FormBack and FormSide return. -/
def behR (k m : Int) : Int := if (0 ≤ k ∧ k ≤ 7) ∧ 0 ≤ m ∧ m ≤ 7 then (behN k.toNat m.toNat : Nat) else 0
def behO (k m : Int) : Bool := decide ((0 ≤ k ∧ k ≤ 7) ∧ 0 ≤ m ∧ m ≤ 7)
def backR (k : Int) : Int := if 0 ≤ k ∧ k ≤ 7 then (backN k.toNat : Nat) else 0
def backO (k : Int) : Bool := decide (0 ≤ k ∧ k ≤ 7)
def sideN (k d : Nat) : Nat := if 4 ≤ k ∧ (d + k) % 2 = 0 then 2 - (d + k) % 4 else (d + k) % 4
def sideR (k d : Int) : Int := if (0 ≤ k ∧ k ≤ 7) ∧ 0 ≤ d ∧ d ≤ 3 then (sideN k.toNat d.toNat : Nat) else 0
def sideO (k d : Int) : Bool := decide ((0 ≤ k ∧ k ≤ 7) ∧ 0 ≤ d ∧ d ≤ 3)
theorem side_lt : ∀ k, k < 8 → ∀ d, d < 4 → sideN k d < 4 := by decide
/-- The least number, among the first n forms, of one before which none of them comes. -/
noncomputable def fstN (f : Nat → Int) : Nat → Nat
  | 0 => 0
  | n + 1 => if lessB (formF f n) (formF f (fstN f n)) = true then n else fstN f n
theorem fst_yes {f : Nat → Int} {n : Nat} (h : lessB (formF f n) (formF f (fstN f n)) = true) : fstN f (n + 1) = n := by simp [fstN, h]
theorem fst_not {f : Nat → Int} {n : Nat} (h : lessB (formF f n) (formF f (fstN f n)) = false) : fstN f (n + 1) = fstN f n := by simp [fstN, h]
theorem fst_one (f : Nat → Int) : fstN f 1 = 0 := by
  refine (fst_not (f := f) (n := 0) ?_).trans rfl
  exact lessB_none fun _ _ => rfl
theorem fst_lt (f : Nat → Int) : ∀ n, 0 < n → fstN f n < n
  | n + 1, _ => by
    unfold fstN
    split
    · omega
    · cases n with
      | zero => exact Nat.lt_succ_self _
      | succ n => have := fst_lt f (n + 1) (by omega); omega
/-- The first form, and its number. -/
noncomputable def fstF (f : Nat → Int) : Nat → Int := formF f (fstN f 8)
/-- The numbers of the forms that are the board itself, among the first n. -/
def isSym (f : Nat → Int) (k : Nat) : Bool := sameB (formF f k) f
def symL (f : Nat → Int) : Nat → List Int
  | 0 => []
  | k + 1 => if isSym f k = true then symL f k ++ [(k : Int)] else symL f k
theorem sym_yes {f : Nat → Int} {k : Nat} (h : isSym f k = true) : symL f (k + 1) = symL f k ++ [(k : Int)] := by simp [symL, h]
theorem sym_not {f : Nat → Int} {k : Nat} (h : isSym f k = false) : symL f (k + 1) = symL f k := by simp [symL, h]
theorem symL_le (f : Nat → Int) : ∀ k, (symL f k).length ≤ k
  | 0 => Nat.le_refl _
  | k + 1 => by
    have := symL_le f k
    unfold symL
    split <;> simp <;> omega
theorem symL_pos (f : Nat → Int) : ∀ k, 0 < k → 0 < (symL f k).length
  | k + 1, _ => by
    cases k with
    | zero =>
      have : isSym f 0 = true := sameB_iff.2 fun _ _ => rfl
      rw [sym_yes this]; simp
    | succ k =>
      have := symL_pos f (k + 1) (by omega)
      unfold symL
      split <;> simp <;> omega
/-- What SymmetriesOf and CountForms return. -/
def symR (f : Nat → Int) : List Int := if Vd f then symL f 8 else []
theorem symR_yes {f : Nat → Int} (h : Vd f) : symR f = symL f 8 := by simp [symR, h]
theorem symR_no {f : Nat → Int} (h : ¬ Vd f) : symR f = [] := by simp [symR, h]
theorem symR_le (f : Nat → Int) : (symR f).length ≤ 8 := by
  unfold symR; split
  · exact symL_le f 8
  · exact Nat.zero_le _
def cfmR (f : Nat → Int) : Int := if Vd f then (8 : Int).tdiv (symL f 8).length else 0
/-- Two directions commute. -/
def comB (f : Nat → Int) (d e : Nat) : Bool := sameB (slideB (slideB f d) e) (slideB (slideB f e) d)
def comR (f : Nat → Int) (d e : Int) : Bool := if Vd f ∧ (0 ≤ d ∧ d ≤ 3) ∧ 0 ≤ e ∧ e ≤ 3 then comB f d.toNat e.toNat else false
def comO (f : Nat → Int) (d e : Int) : Bool := decide (Vd f ∧ (0 ≤ d ∧ d ≤ 3) ∧ 0 ≤ e ∧ e ≤ 3)
end Go.Proofs.Ytfjpdopljmilpaa.Plain
namespace Go.Proofs.Ytfjpdopljmilpaa.Plain
def worthZ (t : Int) : Int := if 0 < t then worth t else 0
theorem worthZ_bd {t : Int} (h0 : 0 ≤ t) (h1 : t ≤ 17) : 0 ≤ worthZ t ∧ worthZ t ≤ 262144 := by
  have := worth_bd h0 (show t ≤ 18 by omega)
  unfold worthZ; split <;> omega
/-- The worths of the first k cells. -/
def sumF (f : Nat → Int) : Nat → Int
  | 0 => 0
  | k + 1 => sumF f k + worthZ (f k)
theorem sumF_bd {f : Nat → Int} (hf : Vd f) : ∀ k, k ≤ 16 → 0 ≤ sumF f k ∧ sumF f k ≤ k * 262144
  | 0, _ => by simp [sumF]
  | k + 1, h => by
    have h1 := sumF_bd hf k (by omega)
    have h2 := hf k (by omega)
    have h3 := worthZ_bd h2.1 h2.2
    unfold sumF; omega
/-- The worths of the numbers 1 .. T among the first k cells. -/
def sumT (f : Nat → Int) (k : Nat) : Nat → Int
  | 0 => 0
  | T + 1 => sumT f k T + cntF f k (T + 1) * worth ((T + 1 : Nat) : Int)
theorem sumT_zero (f : Nat → Int) : ∀ T, sumT f 0 T = 0
  | 0 => rfl
  | T + 1 => by unfold sumT; rw [sumT_zero f T]; simp [cntF]
theorem sumT_step (f : Nat → Int) (k : Nat) : ∀ T : Nat, sumT f (k + 1) T = sumT f k T + (if 1 ≤ f k ∧ f k ≤ (T : Int) then worth (f k) else 0)
  | 0 => by
    unfold sumT
    rw [if_neg (by omega)]; rfl
  | T + 1 => by
    show sumT f (k + 1) T + (cntF f k (T + 1) + (if f k = ((T + 1 : Nat) : Int) then 1 else 0)) * worth ((T + 1 : Nat) : Int) = sumT f k T + cntF f k (T + 1) * worth ((T + 1 : Nat) : Int) + _
    rw [sumT_step f k T, Int.add_mul]
    by_cases e : f k = ((T + 1 : Nat) : Int)
    · rw [if_pos e, if_neg (by omega), if_pos (by omega), e, Int.one_mul]; omega
    · rw [if_neg e, Int.zero_mul]
      by_cases h : 1 ≤ f k ∧ f k ≤ (T : Int)
      · rw [if_pos h, if_pos (by omega)]; omega
      · rw [if_neg h, if_neg (by omega)]; omega
theorem sumT_all {f : Nat → Int} (hf : Vd f) : ∀ k, k ≤ 16 → sumT f k 17 = sumF f k
  | 0, _ => sumT_zero f 17
  | k + 1, h => by
    have h2 := hf k (by omega)
    rw [sumT_step, sumT_all hf k (by omega)]
    show _ = sumF f k + worthZ (f k)
    unfold worthZ
    by_cases e : 0 < f k
    · rw [if_pos e, if_pos (by omega)]
    · rw [if_neg e, if_neg (by omega)]
theorem term_bd (f : Nat → Int) (k : Nat) (hk : k ≤ 16) (T : Nat) (hT : T ≤ 18) : 0 ≤ cntF f k T * worth (T : Int) ∧ cntF f k T * worth (T : Int) ≤ 4194304 := by
  have h1 := cntF_bd f k T
  have h2 := worth_bd (t := (T : Int)) (by omega) (by omega)
  refine ⟨Int.mul_nonneg h1.1 (by omega), ?_⟩
  have := Int.mul_le_mul (a := cntF f k T) (b := worth (T : Int)) (c := 16) (d := 262144) (by omega) h2.2 (by omega) (by omega)
  omega
theorem sumT_bd (f : Nat → Int) (k : Nat) (hk : k ≤ 16) : ∀ T, T ≤ 18 → 0 ≤ sumT f k T ∧ sumT f k T ≤ T * 4194304
  | 0, _ => by simp [sumT]
  | T + 1, h => by
    have h1 := sumT_bd f k hk T (by omega)
    have h2 := term_bd f k hk (T + 1) h
    unfold sumT; omega
def sumR (f : Nat → Int) : Int := if Vd f then sumF f 16 else 0
theorem sumR_yes {f : Nat → Int} (h : Vd f) : sumR f = sumF f 16 := by simp [sumR, h]
theorem sumR_no {f : Nat → Int} (h : ¬ Vd f) : sumR f = 0 := by simp [sumR, h]
end Go.Proofs.Ytfjpdopljmilpaa.Plain
namespace Go.Proofs.Ytfjpdopljmilpaa.Plain
/-- The pairs of a row up to the place k. -/
def prow (g : Nat → Int) : Nat → Int
  | 0 => 0
  | k + 1 => prow g k + (if g (k + 1) = g k ∧ 1 ≤ g (k + 1) ∧ g (k + 1) ≤ 16 then 1 else 0)
theorem prow_bd (g : Nat → Int) : ∀ k, 0 ≤ prow g k ∧ prow g k ≤ k
  | 0 => by simp [prow]
  | k + 1 => by have := prow_bd g k; unfold prow; split <;> omega
theorem prow_yes {g : Nat → Int} {k : Nat} (h : g (k + 1) = g k ∧ 1 ≤ g (k + 1) ∧ g (k + 1) ≤ 16) : prow g (k + 1) = prow g k + 1 := by rw [prow, if_pos h]
theorem prow_no {g : Nat → Int} {k : Nat} (h : ¬ (g (k + 1) = g k ∧ 1 ≤ g (k + 1) ∧ g (k + 1) ≤ 16)) : prow g (k + 1) = prow g k := by rw [prow, if_neg h, Int.add_zero]
theorem prow_congr {g h : Nat → Int} : ∀ k, (∀ i, i ≤ k → g i = h i) → prow g k = prow h k
  | 0, _ => rfl
  | k + 1, e => by
    show prow g k + _ = prow h k + _
    rw [prow_congr k (fun i hi => e i (by omega)), e k (by omega), e (k + 1) (by omega)]
/-- The pairs of the first r rows. -/
def prows (f : Nat → Int) : Nat → Int
  | 0 => 0
  | r + 1 => prows f r + prow (fun c => f (r * 4 + c)) 3
theorem prows_bd (f : Nat → Int) : ∀ r, 0 ≤ prows f r ∧ prows f r ≤ r * 3
  | 0 => by simp [prows]
  | r + 1 => by have := prows_bd f r; have := prow_bd (fun c => f (r * 4 + c)) 3; unfold prows; omega
/-- The pairs of the first i rows and columns. -/
def plines (f : Nat → Int) : Nat → Int
  | 0 => 0
  | i + 1 => plines f i + prow (lineF f 0 i) 3 + prow (lineF f 1 i) 3
theorem plines_bd (f : Nat → Int) : ∀ i, 0 ≤ plines f i ∧ plines f i ≤ i * 6
  | 0 => by simp [plines]
  | i + 1 => by have := plines_bd f i; have := prow_bd (lineF f 0 i) 3; have := prow_bd (lineF f 1 i) 3; unfold plines; omega
theorem plines_rows (f : Nat → Int) : ∀ i, i ≤ 4 → plines f i = prows f i + prows (fun j => f (j % 4 * 4 + j / 4)) i
  | 0, _ => rfl
  | i + 1, h => by
    show plines f i + prow (lineF f 0 i) 3 + prow (lineF f 1 i) 3 = (prows f i + prow (fun c => f (i * 4 + c)) 3) + (prows (fun j => f (j % 4 * 4 + j / 4)) i + prow (fun c => f ((i * 4 + c) % 4 * 4 + (i * 4 + c) / 4)) 3)
    have e1 : prow (lineF f 0 i) 3 = prow (fun c => f (i * 4 + c)) 3 := rfl
    have e2 : prow (lineF f 1 i) 3 = prow (fun c => f ((i * 4 + c) % 4 * 4 + (i * 4 + c) / 4)) 3 := prow_congr 3 fun c hc => by
      show f (c * 4 + i) = f ((i * 4 + c) % 4 * 4 + (i * 4 + c) / 4)
      congr 1; omega
    rw [e1, e2, plines_rows f i (by omega)]
    omega
def pairsR (f : Nat → Int) : Int := if Vd f then plines f 4 else 0
theorem pairsR_yes {f : Nat → Int} (h : Vd f) : pairsR f = plines f 4 := by simp [pairsR, h]
theorem pairsR_no {f : Nat → Int} (h : ¬ Vd f) : pairsR f = 0 := by simp [pairsR, h]
theorem vd_tr {f : Nat → Int} (h : Vd f) : Vd (fun j => f (j % 4 * 4 + j / 4)) := fun j hj => h _ (by omega)
end Go.Proofs.Ytfjpdopljmilpaa.Plain
namespace Go.Proofs.Ytfjpdopljmilpaa.Plain
theorem eight_cases {k : Nat} (h : k < 8) : k = 0 ∨ k = 1 ∨ k = 2 ∨ k = 3 ∨ k = 4 ∨ k = 5 ∨ k = 6 ∨ k = 7 := by omega
theorem sum_form (f : Nat → Int) {k : Nat} (hk : k < 8) : sumF (formF f k) 16 = sumF f 16 := by
  rcases eight_cases hk with rfl | rfl | rfl | rfl | rfl | rfl | rfl | rfl <;> (simp [sumF, formF, plc] <;> omega)
/-- A pair of neighbors. -/
def pr (a b : Int) : Int := if b = a ∧ 1 ≤ b ∧ b ≤ 16 then 1 else 0
theorem pr_comm (a b : Int) : pr a b = pr b a := by
  unfold pr
  by_cases h : b = a
  · subst h; rfl
  · rw [if_neg (fun e => h e.1), if_neg (fun e => h e.1.symm)]
theorem prow_three (g : Nat → Int) : prow g 3 = pr (g 0) (g 1) + pr (g 1) (g 2) + pr (g 2) (g 3) := by
  unfold pr
  simp only [prow, Nat.zero_add, Nat.reduceAdd]
  omega
theorem plines_four (f : Nat → Int) : plines f 4 = pr (f 0) (f 1) + pr (f 1) (f 2) + pr (f 2) (f 3) + pr (f 4) (f 5) + pr (f 5) (f 6) + pr (f 6) (f 7) + pr (f 8) (f 9) + pr (f 9) (f 10) + pr (f 10) (f 11) + pr (f 12) (f 13) + pr (f 13) (f 14) + pr (f 14) (f 15) + pr (f 0) (f 4) + pr (f 4) (f 8) + pr (f 8) (f 12) + pr (f 1) (f 5) + pr (f 5) (f 9) + pr (f 9) (f 13) + pr (f 2) (f 6) + pr (f 6) (f 10) + pr (f 10) (f 14) + pr (f 3) (f 7) + pr (f 7) (f 11) + pr (f 11) (f 15) := by
  simp only [plines, prow_three, lineF, pos]
  simp
  omega
theorem pairs_form (f : Nat → Int) {k : Nat} (hk : k < 8) : plines (formF f k) 4 = plines f 4 := by
  rw [plines_four, plines_four]
  have c0 := pr_comm (f 0) (f 1)
  have c1 := pr_comm (f 0) (f 4)
  have c2 := pr_comm (f 1) (f 2)
  have c3 := pr_comm (f 1) (f 5)
  have c4 := pr_comm (f 2) (f 3)
  have c5 := pr_comm (f 2) (f 6)
  have c6 := pr_comm (f 3) (f 7)
  have c7 := pr_comm (f 4) (f 5)
  have c8 := pr_comm (f 4) (f 8)
  have c9 := pr_comm (f 5) (f 6)
  have c10 := pr_comm (f 5) (f 9)
  have c11 := pr_comm (f 6) (f 7)
  have c12 := pr_comm (f 6) (f 10)
  have c13 := pr_comm (f 7) (f 11)
  have c14 := pr_comm (f 8) (f 9)
  have c15 := pr_comm (f 8) (f 12)
  have c16 := pr_comm (f 9) (f 10)
  have c17 := pr_comm (f 9) (f 13)
  have c18 := pr_comm (f 10) (f 11)
  have c19 := pr_comm (f 10) (f 14)
  have c20 := pr_comm (f 11) (f 15)
  have c21 := pr_comm (f 12) (f 13)
  have c22 := pr_comm (f 13) (f 14)
  have c23 := pr_comm (f 14) (f 15)
  rcases eight_cases hk with rfl | rfl | rfl | rfl | rfl | rfl | rfl | rfl <;> (simp only [formF, plc] <;> simp <;> omega)
set_option maxRecDepth 100000 in
theorem place_form : ∀ k, k < 8 → ∀ d, d < 4 → ∀ j, j < 16 → placeOf (sideN k d) j = placeOf d (plc k j) := by decide
set_option maxRecDepth 100000 in
theorem line_form : ∀ k, k < 8 → ∀ d, d < 4 → ∀ j, j < 16 → ∀ c, c < 4 → plc k (pos (sideN k d) (lineOf (sideN k d) j) c) = pos d (lineOf d (plc k j)) c := by decide
theorem slide_form (f : Nat → Int) {k d : Nat} (hk : k < 8) (hd : d < 4) : ∀ j, j < 16 → slideB (formF f k) (sideN k d) j = formF (slideB f d) k j := by
  intro j hj
  show (slid (lineF (formF f k) (sideN k d) (lineOf (sideN k d) j)) 4).row (placeOf (sideN k d) j) = (slid (lineF f d (lineOf d (plc k j))) 4).row (placeOf d (plc k j))
  rw [place_form k hk d hd j hj]
  have : slid (lineF (formF f k) (sideN k d) (lineOf (sideN k d) j)) 4 = slid (lineF f d (lineOf d (plc k j))) 4 := slid_congr 4 fun c hc => by
    show f (plc k (pos (sideN k d) (lineOf (sideN k d) j) c)) = f (pos d (lineOf d (plc k j)) c)
    rw [line_form k hk d hd j hj c hc]
  rw [this]
/-- Which line of the board a line of its form is. -/
def liN (k d i : Nat) : Nat := lineOf d (plc k (pos (sideN k d) i 0))
theorem liN_two : ∀ k, k < 8 → ∀ d, d < 4 → (liN k d 0 = 0 ∧ liN k d 1 = 1 ∧ liN k d 2 = 2 ∧ liN k d 3 = 3) ∨ (liN k d 0 = 3 ∧ liN k d 1 = 2 ∧ liN k d 2 = 1 ∧ liN k d 3 = 0) := by decide
theorem liN_slid (f : Nat → Int) {k d : Nat} (hk : k < 8) (hd : d < 4) (i : Nat) (hi : i < 4) : slid (lineF (formF f k) (sideN k d) i) 4 = slid (lineF f d (liN k d i)) 4 := slid_congr 4 fun c hc => by
  show f (plc k (pos (sideN k d) i c)) = f (pos d (liN k d i) c)
  have h := line_form k hk d hd (pos (sideN k d) i 0) (pos_lt hi (by omega)) c hc
  rw [lineOf_pos hi (by omega)] at h
  rw [h]; rfl
theorem score_form (f : Nat → Int) {k d : Nat} (hk : k < 8) (hd : d < 4) : slideS (formF f k) (sideN k d) 4 = slideS f d 4 := by
  simp only [slideS, liN_slid f hk hd 0 (by omega), liN_slid f hk hd 1 (by omega), liN_slid f hk hd 2 (by omega), liN_slid f hk hd 3 (by omega)]
  rcases liN_two k hk d hd with ⟨h0, h1, h2, h3⟩ | ⟨h0, h1, h2, h3⟩ <;> (rw [h0, h1, h2, h3] <;> omega)
theorem sumR_form {f : Nat → Int} (h : Vd f) {k : Nat} (hk : k < 8) : sumR (formF f k) = sumR f := by rw [sumR_yes h, sumR_yes (form_vd h k), sum_form f hk]
theorem pairsR_form {f : Nat → Int} (h : Vd f) {k : Nat} (hk : k < 8) : pairsR (formF f k) = pairsR f := by rw [pairsR_yes h, pairsR_yes (form_vd h k), pairs_form f hk]
end Go.Proofs.Ytfjpdopljmilpaa.Plain
namespace Go.Proofs.Ytfjpdopljmilpaa.Plain
/-- The different ones among the first k forms, in order. -/
noncomputable def insF (f : Nat → Int) : Nat → List (List Int)
  | 0 => []
  | k + 1 => insL (lt 16) (insF f k) (cl 16 (formF f k))
theorem insF_mem (f : Nat → Int) : ∀ k x, x ∈ insF f k ↔ ∃ i, i < k ∧ x = cl 16 (formF f i)
  | 0, x => by simp [insF]
  | k + 1, x => by
    unfold insF
    rw [ins_mem, insF_mem f k x]
    constructor
    · rintro (⟨i, hi, e⟩ | e)
      · exact ⟨i, by omega, e⟩
      · exact ⟨k, by omega, e⟩
    · rintro ⟨i, hi, e⟩
      rcases (by omega : i < k ∨ i = k) with q | rfl
      · exact Or.inl ⟨i, q, e⟩
      · exact Or.inr e
theorem insF_len (f : Nat → Int) (k : Nat) : ∀ x, x ∈ insF f k → x.length = 16 := fun x hx => by
  obtain ⟨i, _, rfl⟩ := (insF_mem f k x).1 hx; exact cl_len _ _
theorem insF_le (f : Nat → Int) : ∀ k, (insF f k).length ≤ k
  | 0 => Nat.le_refl _
  | k + 1 => by
    have := insF_le f k
    unfold insF
    rw [ins_len]; split <;> omega
theorem insF_ss (f : Nat → Int) : ∀ k, SS (lt 16) (insF f k)
  | 0 => List.Pairwise.nil
  | k + 1 => by
    unfold insF
    exact ins_ss (lt 16) (fun x y z h1 h2 => lt_trans h1 h2) _ _ (fun x hx h1 h2 => lt_total (insF_len f k x hx) (cl_len _ _) h1 h2) (insF_ss f k)
/-- What FormsOf returns. -/
noncomputable def foR (f : Nat → Int) : List (List Int) := if Vd f then insF f 8 else []
theorem foR_yes {f : Nat → Int} (h : Vd f) : foR f = insF f 8 := by simp [foR, h]
theorem foR_no {f : Nat → Int} (h : ¬ Vd f) : foR f = [] := by simp [foR, h]
theorem foR_len (f : Nat → Int) : ∀ x, x ∈ foR f → x.length = 16 := fun x hx => by
  unfold foR at hx; split at hx
  · exact insF_len f 8 x hx
  · cases hx
theorem foR_le (f : Nat → Int) : (foR f).length ≤ 8 := by
  unfold foR; split
  · exact insF_le f 8
  · exact Nat.zero_le _
/-- All eight forms. -/
def frm8 (f : Nat → Int) : List (List Int) := (List.range 8).map fun k => cl 16 (formF f k)
theorem frm8_len (f : Nat → Int) : (frm8 f).length = 8 := by simp [frm8]
theorem frm8_at (f : Nat → Int) {k : Nat} (hk : k < 8) : (frm8 f)[k]? = some (cl 16 (formF f k)) := by simp [frm8, hk]
theorem frm8_mem (f : Nat → Int) (x : List Int) : x ∈ frm8 f ↔ ∃ i, i < 8 ∧ x = cl 16 (formF f i) := by
  unfold frm8
  rw [List.mem_map]
  constructor
  · rintro ⟨i, hi, e⟩; exact ⟨i, List.mem_range.1 hi, e.symm⟩
  · rintro ⟨i, hi, e⟩; exact ⟨i, List.mem_range.2 hi, e.symm⟩
/-- Lists put in order, without what is the same as the one ahead: the same list as that of all put in one by one. -/
theorem ded_sorted {n : Nat} (L I : List (List Int)) (hl : ∀ x, x ∈ L → x.length = n) (hI : SS (lt n) I) (hm : ∀ x, x ∈ L ↔ x ∈ I) :
    dedN (L.mergeSort fun x y => !lt n y x) L.length = I := by
  have hlen : (L.mergeSort fun x y => !lt n y x).length = L.length := List.length_mergeSort _
  have hmem : ∀ x, x ∈ (L.mergeSort fun x y => !lt n y x) ↔ x ∈ L := fun x => List.mem_mergeSort
  have hnt : ∀ x y z : List Int, x.length = n → y.length = n → lt n y x = false → lt n y z = true → lt n x z = true ∨ x = y := fun x y z hx hy h1 h2 => by
    rcases h : lt n x y with _ | _
    · exact Or.inr (lt_total hx hy h h1)
    · exact Or.inl (lt_trans h h2)
  refine ss_unique (lt n) (lt_irrefl n) (fun x y z h1 h2 => lt_trans h1 h2) _ _ ?_ hI fun x => ?_
  · refine ded_ss (lt n) (fun x y z h1 h2 => lt_trans h1 h2) _ (fun x y hx hy h1 h2 => lt_total (hl x ((hmem x).1 hx)) (hl y ((hmem y).1 hy)) h1 h2) (fun x y z hx hy hz h1 h2 => hnt x y z (hl x ((hmem x).1 hx)) (hl y ((hmem y).1 hy)) h1 h2) ?_ _
    have ht : ∀ a b c : {l : List Int // l.length = n}, (!lt n b.1 a.1) = true → (!lt n c.1 b.1) = true → (!lt n c.1 a.1) = true := fun a b c h1 h2 => by
      simp only [Bool.not_eq_true'] at *
      rcases h : lt n c.1 a.1 with _ | _
      · rfl
      · rcases h3 : lt n a.1 b.1 with _ | _
        · have := lt_total a.2 b.2 h3 h1
          rw [this, h2] at h; cases h
        · have := lt_trans h h3; rw [h2] at this; cases this
    have hto : ∀ a b : {l : List Int // l.length = n}, ((!lt n b.1 a.1) || (!lt n a.1 b.1)) = true := fun a b => by
      rcases h : lt n b.1 a.1 with _ | _
      · rfl
      · rw [lt_asym h]; rfl
    have hs := List.pairwise_mergeSort (le := fun a b : {l : List Int // l.length = n} => !lt n b.1 a.1) (fun a b c => ht a b c) hto (L.attach.map fun x => ⟨x.1, hl x.1 x.2⟩)
    have hmap : ((L.attach.map fun x => (⟨x.1, hl x.1 x.2⟩ : {l : List Int // l.length = n})).mergeSort fun a b => !lt n b.1 a.1).map (·.1) = L.mergeSort fun x y => !lt n y x := by
      rw [List.map_mergeSort (s := fun x y => !lt n y x) (fun a _ b _ => rfl), List.map_map]
      congr 1
      exact List.attach_map_subtype_val L
    rw [← hmap, List.pairwise_map]
    exact hs
  · rw [ded_mem, ← hm, ← hmem]
    constructor
    · rintro ⟨i, _, e⟩; exact List.mem_of_getElem? e
    · intro hx
      obtain ⟨i, hi⟩ := List.getElem?_of_mem hx
      exact ⟨i, by have := (List.getElem?_eq_some_iff.1 hi).1; rw [hlen] at this; exact this, hi⟩
theorem forms_ded (f : Nat → Int) : dedN ((frm8 f).mergeSort fun x y => !lt 16 y x) 8 = insF f 8 := by
  have := ded_sorted (n := 16) (frm8 f) (insF f 8) (fun x hx => by obtain ⟨i, _, rfl⟩ := (frm8_mem f x).1 hx; exact cl_len _ _) (insF_ss f 8) (fun x => (frm8_mem f x).trans (insF_mem f 8 x).symm)
  rw [frm8_len] at this
  exact this
end Go.Proofs.Ytfjpdopljmilpaa.Plain
namespace Go.Proofs.Ytfjpdopljmilpaa.Plain
def LineOk (f : Nat → Int) (d i : Int) : Prop := Vd f ∧ (0 ≤ d ∧ d ≤ 3) ∧ 0 ≤ i ∧ i ≤ 3
instance (f : Nat → Int) (d i : Int) : Decidable (LineOk f d i) := by unfold LineOk; infer_instance
def lineO (f : Nat → Int) (d i : Int) : Bool := decide (LineOk f d i)
def lineR (f : Nat → Int) (d i : Int) : Nat → Int := if LineOk f d i then lineF f d.toNat i.toNat else fun _ => 0
theorem line_yes {f : Nat → Int} {d i : Int} (h : LineOk f d i) : lineO f d i = true ∧ lineR f d i = lineF f d.toNat i.toNat := by
  unfold lineO lineR; simp [h]
theorem line_no {f : Nat → Int} {d i : Int} (h : ¬ LineOk f d i) : lineO f d i = false ∧ lineR f d i = fun _ => 0 := by
  unfold lineO lineR; simp [h]
end Go.Proofs.Ytfjpdopljmilpaa.Plain
namespace Go.Proofs.Ytfjpdopljmilpaa.Plain
/-- The cell lies on a board. -/
def CellIn (g : Nat → Int) : Prop := (0 ≤ g 0 ∧ g 0 ≤ 3) ∧ 0 ≤ g 1 ∧ g 1 ≤ 3
instance (g : Nat → Int) : Decidable (CellIn g) := by unfold CellIn; infer_instance
/-- The place of a cell. -/
def placeAt (g : Nat → Int) : Nat := (g 0).toNat * 4 + (g 1).toNat
def PutOk (f g : Nat → Int) (t : Int) : Prop := Vd f ∧ CellIn g ∧ (1 ≤ t ∧ t ≤ 17) ∧ f (placeAt g) = 0
instance (f g : Nat → Int) (t : Int) : Decidable (PutOk f g t) := by unfold PutOk; infer_instance
def putO (f g : Nat → Int) (t : Int) : Bool := decide (PutOk f g t)
def putB (f g : Nat → Int) (t : Int) : Nat → Int := if PutOk f g t then upd f (placeAt g) t else fun _ => 0
theorem put_yes {f g : Nat → Int} {t : Int} (h : PutOk f g t) : putO f g t = true ∧ putB f g t = upd f (placeAt g) t := by
  unfold putO putB; simp [h]
theorem put_no {f g : Nat → Int} {t : Int} (h : ¬ PutOk f g t) : putO f g t = false ∧ putB f g t = fun _ => 0 := by
  unfold putO putB; simp [h]
def TakeOk (f g : Nat → Int) : Prop := Vd f ∧ CellIn g ∧ f (placeAt g) ≠ 0
instance (f g : Nat → Int) : Decidable (TakeOk f g) := by unfold TakeOk; infer_instance
def takeO (f g : Nat → Int) : Bool := decide (TakeOk f g)
def takeB (f g : Nat → Int) : Nat → Int := if TakeOk f g then upd f (placeAt g) 0 else fun _ => 0
def takeT (f g : Nat → Int) : Int := if TakeOk f g then f (placeAt g) else 0
theorem take_yes {f g : Nat → Int} (h : TakeOk f g) : takeO f g = true ∧ takeB f g = upd f (placeAt g) 0 ∧ takeT f g = f (placeAt g) := by
  unfold takeO takeB takeT; simp [h]
theorem take_no {f g : Nat → Int} (h : ¬ TakeOk f g) : takeO f g = false ∧ takeB f g = (fun _ => 0) ∧ takeT f g = 0 := by
  unfold takeO takeB takeT; simp [h]
/-- A cell that lies on a board, told by two naturals. -/
theorem cell_nat {g : Nat → Int} (h : CellIn g) : ∃ r c : Nat, r < 4 ∧ c < 4 ∧ g 0 = r ∧ g 1 = c ∧ placeAt g = r * 4 + c := by
  obtain ⟨⟨a, b⟩, c, d⟩ := h
  exact ⟨(g 0).toNat, (g 1).toNat, by omega, by omega, by omega, by omega, rfl⟩
end Go.Proofs.Ytfjpdopljmilpaa.Plain
namespace Go.Proofs.Ytfjpdopljmilpaa.Plain
/-- The sign of a number of a cell. -/
def letB (t : Int) : UInt8 := UInt8.ofNat (if t = 0 then 46 else 96 + t.toNat)
theorem letB_nat {t : Int} (h0 : 0 ≤ t) (h1 : t ≤ 17) : ((letB t).toNat : Int) = if t = 0 then 46 else 96 + t := by
  rcases (by omega : t = 0 ∨ t = 1 ∨ t = 2 ∨ t = 3 ∨ t = 4 ∨ t = 5 ∨ t = 6 ∨ t = 7 ∨ t = 8 ∨ t = 9 ∨ t = 10 ∨ t = 11 ∨ t = 12 ∨ t = 13 ∨ t = 14 ∨ t = 15 ∨ t = 16 ∨ t = 17) with rfl | rfl | rfl | rfl | rfl | rfl | rfl | rfl | rfl | rfl | rfl | rfl | rfl | rfl | rfl | rfl | rfl | rfl <;> decide
/-- The signs of c cells of a row; the mark ahead of a row; r rows. -/
def rowT (f : Nat → Int) (r c : Nat) : List UInt8 := (List.range c).map fun i => letB (f (r * 4 + i))
def sepT (r : Nat) : List UInt8 := if r = 0 then [] else [47]
def rowsT (f : Nat → Int) : Nat → List UInt8
  | 0 => []
  | r + 1 => rowsT f r ++ sepT r ++ rowT f r 4
theorem rowT_zero (f : Nat → Int) (r : Nat) : rowT f r 0 = [] := rfl
theorem rowT_step (f : Nat → Int) (r c : Nat) : rowT f r (c + 1) = rowT f r c ++ [letB (f (r * 4 + c))] := by
  simp [rowT, List.range_succ]
theorem rowT_len (f : Nat → Int) (r c : Nat) : (rowT f r c).length = c := by simp [rowT]
theorem sepT_len (r : Nat) : (sepT r).length ≤ 1 := by unfold sepT; split <;> simp
theorem rowsT_len (f : Nat → Int) : ∀ r, (rowsT f r).length ≤ r * 5
  | 0 => Nat.le_refl _
  | r + 1 => by
    have h1 := rowsT_len f r
    have h2 := sepT_len r
    have h3 := rowT_len f r 4
    unfold rowsT
    simp only [List.length_append]
    omega
/-- A text told by its bytes. -/
def tbs (l : List UInt8) : ByteArray := ⟨l.toArray⟩
theorem tbs_app (a b : List UInt8) : tbs (a ++ b) = tbs a ++ tbs b := by
  apply ByteArray.ext
  simp [tbs, ByteArray.data_append]
theorem tbs_size (l : List UInt8) : (tbs l).size = l.length := rfl
theorem tbs_inj {a b : List UInt8} (h : tbs a = tbs b) : a = b := by
  have : (tbs a).data.toList = (tbs b).data.toList := by rw [h]
  simpa [tbs] using this
/-- The text of a board. -/
def textL (f : Nat → Int) : List UInt8 := rowsT f 4
end Go.Proofs.Ytfjpdopljmilpaa.Plain
namespace Go.Proofs.Ytfjpdopljmilpaa.Plain
/-- A byte of a text. -/
def byt (s : ByteArray) (i : Nat) : UInt8 := s.data.toList.getD i 0
theorem byt_get (s : ByteArray) {i : Nat} (h : i < s.size) : s[i] = byt s i := by
  have h2 : i < s.data.toList.length := by simpa using h
  unfold byt
  rw [List.getD_eq_getElem?_getD, List.getElem?_eq_getElem h2]
  rfl
/-- The sign of the number t, as a number. -/
def sg (t : Nat) : Int := if t = 0 then 46 else 96 + (t : Int)
/-- The number of a sign, or -1. -/
def sgn (b : UInt8) : Int := if b.toNat = 46 then 0 else if 97 ≤ b.toNat ∧ b.toNat ≤ 113 then (b.toNat : Int) - 96 else -1
theorem sgn_at {b : UInt8} {t : Nat} (ht : t < 18) (h : sg t = (b.toNat : Int)) : sgn b = t := by
  unfold sg at h; unfold sgn
  split at h
  · rw [if_pos (by omega)]; omega
  · rw [if_neg (by omega), if_pos (by omega)]; omega
theorem sgn_none {b : UInt8} (h : ∀ t, t < 18 → sg t ≠ (b.toNat : Int)) : sgn b = -1 := by
  unfold sgn
  have h0 := h 0 (by omega)
  simp only [sg, if_true] at h0
  rw [if_neg (by omega), if_neg]
  rintro ⟨a, c⟩
  have := h (b.toNat - 96) (by omega)
  unfold sg at this
  rw [if_neg (by omega)] at this
  omega
theorem sgn_bd (b : UInt8) : -1 ≤ sgn b ∧ sgn b ≤ 17 := by
  unfold sgn; split
  · omega
  · split <;> omega
theorem sgn_letB {b : UInt8} (h : 0 ≤ sgn b) : letB (sgn b) = b := by
  have h2 := letB_nat h (sgn_bd b).2
  apply UInt8.toNat_inj.1
  have h3 : ((letB (sgn b)).toNat : Int) = (b.toNat : Int) := by
    rw [h2]
    unfold sgn at h ⊢
    by_cases h0 : b.toNat = 46
    · simp only [h0, if_true]; omega
    · by_cases h1 : 97 ≤ b.toNat ∧ b.toNat ≤ 113
      · simp only [h0, h1, if_true, if_false, and_self]
        rw [if_neg (by omega)]; omega
      · rw [if_neg h0, if_neg h1] at h; omega
  omega
theorem letB_sgn {t : Int} (h0 : 0 ≤ t) (h1 : t ≤ 17) : sgn (letB t) = t := by
  have h2 := letB_nat h0 h1
  have h3 := sgn_at (b := letB t) (t := t.toNat) (by omega) (by
    rw [h2]; unfold sg
    by_cases e : t = 0
    · rw [if_pos e, if_pos (by omega)]
    · rw [if_neg e, if_neg (by omega)]; omega)
  omega
/-- What a text must be at place i. -/
def okB (s : ByteArray) (i : Nat) : Prop := if i % 5 = 4 then byt s i = 47 else 0 ≤ sgn (byt s i)
instance (s : ByteArray) (i : Nat) : Decidable (okB s i) := by unfold okB; infer_instance
def ParOk (s : ByteArray) : Prop := s.size = 19 ∧ ∀ i, i < 19 → okB s i
instance (s : ByteArray) : Decidable (ParOk s) := by unfold ParOk; infer_instance
/-- Where a cell's sign stands. -/
def plT (j : Nat) : Nat := j / 4 * 5 + j % 4
def parF (s : ByteArray) : Nat → Int := fun j => sgn (byt s (plT j))
def parU (s : ByteArray) (i : Nat) : Nat → Int := fun j => if plT j < i then parF s j else 0
theorem parU_zero (s : ByteArray) (j : Nat) : parU s 0 j = 0 := by simp [parU]
theorem parU_skip (s : ByteArray) {q : Nat} (j : Nat) : parU s (q * 5 + 4) j = parU s (q * 5 + 4 + 1) j := by
  unfold parU plT
  by_cases h : j / 4 * 5 + j % 4 < q * 5 + 4
  · rw [if_pos h, if_pos (by omega)]
  · rw [if_neg h, if_neg (by omega)]
theorem parU_step (s : ByteArray) {q m : Nat} (hm : m < 4) (j : Nat) : upd (parU s (q * 5 + m)) (q * 4 + m) (sgn (byt s (q * 5 + m))) j = parU s (q * 5 + m + 1) j := by
  unfold upd parU plT
  by_cases e : j = q * 4 + m
  · subst e
    rw [if_pos rfl, if_pos (by omega)]
    unfold parF plT
    rw [show (q * 4 + m) / 4 * 5 + (q * 4 + m) % 4 = q * 5 + m by omega]
  · rw [if_neg e]
    by_cases h : j / 4 * 5 + j % 4 < q * 5 + m
    · rw [if_pos h, if_pos (by omega)]
    · rw [if_neg h, if_neg (by omega)]
theorem parU_all (s : ByteArray) : ∀ j, j < 16 → parU s 19 j = parF s j := by
  intro j hj; unfold parU plT; rw [if_pos (by omega)]
/-- What ParseBoard returns. -/
def parR (s : ByteArray) : Nat → Int := if ParOk s then parF s else fun _ => 0
def parO (s : ByteArray) : Bool := decide (ParOk s)
theorem par_yes {s : ByteArray} (h : ParOk s) : parR s = parF s ∧ parO s = true := by simp [parR, parO, h]
theorem par_no {s : ByteArray} (h : ¬ ParOk s) : parR s = (fun _ => 0) ∧ parO s = false := by simp [parR, parO, h]
/-- What the program reads at first. -/
def numN (b : UInt8) : Int := if b.toNat = 46 then 0 else (b.toNat : Int) - 97 + 1
def numF (s : ByteArray) : Nat → Int := fun j => numN (byt s (plT j))
theorem numN_sgn {b : UInt8} (h : 0 ≤ sgn b) : numN b = sgn b := by
  unfold sgn at h ⊢; unfold numN
  by_cases h0 : b.toNat = 46
  · rw [if_pos h0, if_pos h0]
  · rw [if_neg h0, if_neg h0] at *
    by_cases h1 : 97 ≤ b.toNat ∧ b.toNat ≤ 113
    · rw [if_pos h1]; omega
    · rw [if_neg h1] at h; omega
theorem text_list (f : Nat → Int) : textL f = [letB (f 0), letB (f 1), letB (f 2), letB (f 3), 47, letB (f 4), letB (f 5), letB (f 6), letB (f 7), 47, letB (f 8), letB (f 9), letB (f 10), letB (f 11), 47, letB (f 12), letB (f 13), letB (f 14), letB (f 15)] := rfl
theorem text_at (f : Nat → Int) (i : Nat) (hi : i < 19) : (textL f).getD i 0 = if i % 5 = 4 then 47 else letB (f (i / 5 * 4 + i % 5)) := by
  rw [text_list]
  rcases (by omega : i = 0 ∨ i = 1 ∨ i = 2 ∨ i = 3 ∨ i = 4 ∨ i = 5 ∨ i = 6 ∨ i = 7 ∨ i = 8 ∨ i = 9 ∨ i = 10 ∨ i = 11 ∨ i = 12 ∨ i = 13 ∨ i = 14 ∨ i = 15 ∨ i = 16 ∨ i = 17 ∨ i = 18) with rfl | rfl | rfl | rfl | rfl | rfl | rfl | rfl | rfl | rfl | rfl | rfl | rfl | rfl | rfl | rfl | rfl | rfl | rfl <;> rfl
theorem text_size (f : Nat → Int) : (tbs (textL f)).size = 19 := rfl
theorem byt_text (f : Nat → Int) (i : Nat) (hi : i < 19) : byt (tbs (textL f)) i = if i % 5 = 4 then 47 else letB (f (i / 5 * 4 + i % 5)) := by
  rw [← text_at f i hi]; rfl
theorem text_ext {s t : ByteArray} (h : s.size = t.size) (e : ∀ i, i < s.size → byt s i = byt t i) : s = t := by
  apply ByteArray.ext
  apply Array.toList_inj.1
  apply List.ext_getElem?
  intro i
  by_cases hi : i < s.size
  · have h1 := e i hi
    have a1 : i < s.data.toList.length := by simpa using hi
    have a2 : i < t.data.toList.length := by simpa using (h ▸ hi)
    unfold byt at h1
    rw [List.getD_eq_getElem?_getD, List.getD_eq_getElem?_getD, List.getElem?_eq_getElem a1, List.getElem?_eq_getElem a2] at h1
    rw [List.getElem?_eq_getElem a1, List.getElem?_eq_getElem a2]
    simpa using h1
  · have h1 := Nat.le_of_not_lt hi
    have h2 : t.size ≤ i := h ▸ h1
    rw [List.getElem?_eq_none (by simpa using h1), List.getElem?_eq_none (by simpa using h2)]
/-- The text of a valid board is read as the board. -/
theorem par_text {f : Nat → Int} (hV : Vd f) : ParOk (tbs (textL f)) ∧ ∀ j, j < 16 → parF (tbs (textL f)) j = f j := by
  refine ⟨⟨rfl, fun i hi => ?_⟩, fun j hj => ?_⟩
  · unfold okB
    rw [byt_text f i hi]
    by_cases h : i % 5 = 4
    · rw [if_pos h, if_pos h]
    · rw [if_neg h, if_neg h]
      have := hV (i / 5 * 4 + i % 5) (by omega)
      rw [letB_sgn this.1 this.2]; exact this.1
  · unfold parF plT
    rw [byt_text f _ (by omega), if_neg (by omega), show (j / 4 * 5 + j % 4) / 5 * 4 + (j / 4 * 5 + j % 4) % 5 = j by omega]
    have := hV j hj
    exact letB_sgn this.1 this.2
/-- A text that can be read is that of the board that is read. -/
theorem text_par {s : ByteArray} (h : ParOk s) : Vd (parF s) ∧ tbs (textL (parF s)) = s := by
  obtain ⟨h1, h2⟩ := h
  have hv : ∀ j, j < 16 → 0 ≤ parF s j := fun j hj => by
    have := h2 (plT j) (by unfold plT; omega)
    unfold okB plT at this
    rw [if_neg (by omega)] at this
    exact this
  refine ⟨fun j hj => ⟨hv j hj, (sgn_bd _).2⟩, text_ext (by rw [text_size, h1]) fun i hi => ?_⟩
  rw [text_size] at hi
  rw [byt_text _ i hi]
  have h3 := h2 i hi
  unfold okB at h3
  by_cases h : i % 5 = 4
  · rw [if_pos h] at h3 ⊢; exact h3.symm
  · rw [if_neg h] at h3 ⊢
    unfold parF plT
    rw [show (i / 5 * 4 + i % 5) / 4 * 5 + (i / 5 * 4 + i % 5) % 4 = i by omega]
    exact sgn_letB h3
theorem num_par {s : ByteArray} (h : ParOk s) : ∀ j, j < 16 → numF s j = parF s j := by
  intro j hj
  have h3 := h.2 (plT j) (by unfold plT; omega)
  unfold okB plT at h3
  rw [if_neg (by omega)] at h3
  exact numN_sgn h3
theorem textL_congr {f g : Nat → Int} (h : ∀ j, j < 16 → f j = g j) : textL f = textL g := by
  rw [text_list, text_list]
  simp only [h 0 (by omega), h 1 (by omega), h 2 (by omega), h 3 (by omega), h 4 (by omega), h 5 (by omega), h 6 (by omega), h 7 (by omega), h 8 (by omega), h 9 (by omega), h 10 (by omega), h 11 (by omega), h 12 (by omega), h 13 (by omega), h 14 (by omega), h 15 (by omega)]
theorem vd_congr {f g : Nat → Int} (h : ∀ j, j < 16 → f j = g j) (hv : Vd f) : Vd g := fun j hj => by rw [← h j hj]; exact hv j hj
theorem num_ok {s : ByteArray} : ParOk s ↔ s.size = 19 ∧ Vd (numF s) ∧ tbs (textL (numF s)) = s := by
  constructor
  · intro h
    obtain ⟨h1, h2⟩ := text_par h
    refine ⟨h.1, vd_congr (fun j hj => (num_par h j hj).symm) h1, ?_⟩
    rw [textL_congr (num_par h)]; exact h2
  · rintro ⟨_, h1, h2⟩
    rw [← h2]
    exact (par_text h1).1
end Go.Proofs.Ytfjpdopljmilpaa.Plain
namespace Go.Proofs.Ytfjpdopljmilpaa.Plain
set_option linter.unusedSimpArgs false
/-- Two numbers merge. -/
def mrgB (t op : Int) : Bool := decide (t = op ∧ t < 17)
theorem mrgB_comm (a b : Int) : mrgB a b = mrgB b a := by
  unfold mrgB
  by_cases h : a = b
  · subst h; rfl
  · rw [decide_eq_false (fun e => h e.1), decide_eq_false (fun e => h e.1.symm)]
theorem mrgB_zero {t : Int} (h : t ≠ 0) : mrgB t 0 = false := by
  unfold mrgB
  rw [decide_eq_false (fun e => h e.1)]
theorem step_eq (s : Slid) (t : Int) : slidStep s t = if t = 0 then s else if mrgB t s.op = true then ⟨upd s.row (s.n - 1) (t + 1), s.n, s.sc + worth (t + 1), s.mg + 1, 0⟩ else ⟨upd s.row s.n t, s.n + 1, s.sc, s.mg, t⟩ := by
  unfold slidStep mrgB
  simp only [decide_eq_true_eq]
/-- Four numbers of a line. -/
def qd (a b c d : Int) : Nat → Int := fun i => if i = 0 then a else if i = 1 then b else if i = 2 then c else d
theorem qd_line (f : Nat → Int) : ∀ i, i < 4 → f i = qd (f 0) (f 1) (f 2) (f 3) i := by
  intro i hi
  rcases (by omega : i = 0 ∨ i = 1 ∨ i = 2 ∨ i = 3) with rfl | rfl | rfl | rfl <;> rfl
set_option maxHeartbeats 4000000 in
theorem mg_turn (a b c d : Int) : (slid (qd a b c d) 4).mg = (slid (qd d c b a) 4).mg := by
  by_cases za : a = 0
  · by_cases zb : b = 0
    · by_cases zc : c = 0
      · by_cases zd : d = 0
        · simp [slid, step_eq, slid0, qd, upd, mrgB_zero, za, zb, zc, zd]
        · simp [slid, step_eq, slid0, qd, upd, mrgB_zero, za, zb, zc, zd]
      · by_cases zd : d = 0
        · simp [slid, step_eq, slid0, qd, upd, mrgB_zero, za, zb, zc, zd]
        · by_cases pcd : mrgB d c = true
          · have pcd' : mrgB c d = true := by rw [mrgB_comm]; exact pcd
            simp [slid, step_eq, slid0, qd, upd, mrgB_zero, za, zb, zc, zd, pcd, pcd']
          · have pcd : mrgB d c = false := by simpa using pcd
            have pcd' : mrgB c d = false := by rw [mrgB_comm]; exact pcd
            simp [slid, step_eq, slid0, qd, upd, mrgB_zero, za, zb, zc, zd, pcd, pcd']
    · by_cases zc : c = 0
      · by_cases zd : d = 0
        · simp [slid, step_eq, slid0, qd, upd, mrgB_zero, za, zb, zc, zd]
        · by_cases pbd : mrgB d b = true
          · have pbd' : mrgB b d = true := by rw [mrgB_comm]; exact pbd
            simp [slid, step_eq, slid0, qd, upd, mrgB_zero, za, zb, zc, zd, pbd, pbd']
          · have pbd : mrgB d b = false := by simpa using pbd
            have pbd' : mrgB b d = false := by rw [mrgB_comm]; exact pbd
            simp [slid, step_eq, slid0, qd, upd, mrgB_zero, za, zb, zc, zd, pbd, pbd']
      · by_cases zd : d = 0
        · by_cases pbc : mrgB c b = true
          · have pbc' : mrgB b c = true := by rw [mrgB_comm]; exact pbc
            simp [slid, step_eq, slid0, qd, upd, mrgB_zero, za, zb, zc, zd, pbc, pbc']
          · have pbc : mrgB c b = false := by simpa using pbc
            have pbc' : mrgB b c = false := by rw [mrgB_comm]; exact pbc
            simp [slid, step_eq, slid0, qd, upd, mrgB_zero, za, zb, zc, zd, pbc, pbc']
        · by_cases pbc : mrgB c b = true
          · have pbc' : mrgB b c = true := by rw [mrgB_comm]; exact pbc
            by_cases pcd : mrgB d c = true
            · have pcd' : mrgB c d = true := by rw [mrgB_comm]; exact pcd
              simp [slid, step_eq, slid0, qd, upd, mrgB_zero, za, zb, zc, zd, pbc, pbc', pcd, pcd']
            · have pcd : mrgB d c = false := by simpa using pcd
              have pcd' : mrgB c d = false := by rw [mrgB_comm]; exact pcd
              simp [slid, step_eq, slid0, qd, upd, mrgB_zero, za, zb, zc, zd, pbc, pbc', pcd, pcd']
          · have pbc : mrgB c b = false := by simpa using pbc
            have pbc' : mrgB b c = false := by rw [mrgB_comm]; exact pbc
            by_cases pcd : mrgB d c = true
            · have pcd' : mrgB c d = true := by rw [mrgB_comm]; exact pcd
              simp [slid, step_eq, slid0, qd, upd, mrgB_zero, za, zb, zc, zd, pbc, pbc', pcd, pcd']
            · have pcd : mrgB d c = false := by simpa using pcd
              have pcd' : mrgB c d = false := by rw [mrgB_comm]; exact pcd
              simp [slid, step_eq, slid0, qd, upd, mrgB_zero, za, zb, zc, zd, pbc, pbc', pcd, pcd']
  · by_cases zb : b = 0
    · by_cases zc : c = 0
      · by_cases zd : d = 0
        · simp [slid, step_eq, slid0, qd, upd, mrgB_zero, za, zb, zc, zd]
        · by_cases pad : mrgB d a = true
          · have pad' : mrgB a d = true := by rw [mrgB_comm]; exact pad
            simp [slid, step_eq, slid0, qd, upd, mrgB_zero, za, zb, zc, zd, pad, pad']
          · have pad : mrgB d a = false := by simpa using pad
            have pad' : mrgB a d = false := by rw [mrgB_comm]; exact pad
            simp [slid, step_eq, slid0, qd, upd, mrgB_zero, za, zb, zc, zd, pad, pad']
      · by_cases zd : d = 0
        · by_cases pac : mrgB c a = true
          · have pac' : mrgB a c = true := by rw [mrgB_comm]; exact pac
            simp [slid, step_eq, slid0, qd, upd, mrgB_zero, za, zb, zc, zd, pac, pac']
          · have pac : mrgB c a = false := by simpa using pac
            have pac' : mrgB a c = false := by rw [mrgB_comm]; exact pac
            simp [slid, step_eq, slid0, qd, upd, mrgB_zero, za, zb, zc, zd, pac, pac']
        · by_cases pac : mrgB c a = true
          · have pac' : mrgB a c = true := by rw [mrgB_comm]; exact pac
            by_cases pcd : mrgB d c = true
            · have pcd' : mrgB c d = true := by rw [mrgB_comm]; exact pcd
              simp [slid, step_eq, slid0, qd, upd, mrgB_zero, za, zb, zc, zd, pac, pac', pcd, pcd']
            · have pcd : mrgB d c = false := by simpa using pcd
              have pcd' : mrgB c d = false := by rw [mrgB_comm]; exact pcd
              simp [slid, step_eq, slid0, qd, upd, mrgB_zero, za, zb, zc, zd, pac, pac', pcd, pcd']
          · have pac : mrgB c a = false := by simpa using pac
            have pac' : mrgB a c = false := by rw [mrgB_comm]; exact pac
            by_cases pcd : mrgB d c = true
            · have pcd' : mrgB c d = true := by rw [mrgB_comm]; exact pcd
              simp [slid, step_eq, slid0, qd, upd, mrgB_zero, za, zb, zc, zd, pac, pac', pcd, pcd']
            · have pcd : mrgB d c = false := by simpa using pcd
              have pcd' : mrgB c d = false := by rw [mrgB_comm]; exact pcd
              simp [slid, step_eq, slid0, qd, upd, mrgB_zero, za, zb, zc, zd, pac, pac', pcd, pcd']
    · by_cases zc : c = 0
      · by_cases zd : d = 0
        · by_cases pab : mrgB b a = true
          · have pab' : mrgB a b = true := by rw [mrgB_comm]; exact pab
            simp [slid, step_eq, slid0, qd, upd, mrgB_zero, za, zb, zc, zd, pab, pab']
          · have pab : mrgB b a = false := by simpa using pab
            have pab' : mrgB a b = false := by rw [mrgB_comm]; exact pab
            simp [slid, step_eq, slid0, qd, upd, mrgB_zero, za, zb, zc, zd, pab, pab']
        · by_cases pab : mrgB b a = true
          · have pab' : mrgB a b = true := by rw [mrgB_comm]; exact pab
            by_cases pbd : mrgB d b = true
            · have pbd' : mrgB b d = true := by rw [mrgB_comm]; exact pbd
              simp [slid, step_eq, slid0, qd, upd, mrgB_zero, za, zb, zc, zd, pab, pab', pbd, pbd']
            · have pbd : mrgB d b = false := by simpa using pbd
              have pbd' : mrgB b d = false := by rw [mrgB_comm]; exact pbd
              simp [slid, step_eq, slid0, qd, upd, mrgB_zero, za, zb, zc, zd, pab, pab', pbd, pbd']
          · have pab : mrgB b a = false := by simpa using pab
            have pab' : mrgB a b = false := by rw [mrgB_comm]; exact pab
            by_cases pbd : mrgB d b = true
            · have pbd' : mrgB b d = true := by rw [mrgB_comm]; exact pbd
              simp [slid, step_eq, slid0, qd, upd, mrgB_zero, za, zb, zc, zd, pab, pab', pbd, pbd']
            · have pbd : mrgB d b = false := by simpa using pbd
              have pbd' : mrgB b d = false := by rw [mrgB_comm]; exact pbd
              simp [slid, step_eq, slid0, qd, upd, mrgB_zero, za, zb, zc, zd, pab, pab', pbd, pbd']
      · by_cases zd : d = 0
        · by_cases pab : mrgB b a = true
          · have pab' : mrgB a b = true := by rw [mrgB_comm]; exact pab
            by_cases pbc : mrgB c b = true
            · have pbc' : mrgB b c = true := by rw [mrgB_comm]; exact pbc
              simp [slid, step_eq, slid0, qd, upd, mrgB_zero, za, zb, zc, zd, pab, pab', pbc, pbc']
            · have pbc : mrgB c b = false := by simpa using pbc
              have pbc' : mrgB b c = false := by rw [mrgB_comm]; exact pbc
              simp [slid, step_eq, slid0, qd, upd, mrgB_zero, za, zb, zc, zd, pab, pab', pbc, pbc']
          · have pab : mrgB b a = false := by simpa using pab
            have pab' : mrgB a b = false := by rw [mrgB_comm]; exact pab
            by_cases pbc : mrgB c b = true
            · have pbc' : mrgB b c = true := by rw [mrgB_comm]; exact pbc
              simp [slid, step_eq, slid0, qd, upd, mrgB_zero, za, zb, zc, zd, pab, pab', pbc, pbc']
            · have pbc : mrgB c b = false := by simpa using pbc
              have pbc' : mrgB b c = false := by rw [mrgB_comm]; exact pbc
              simp [slid, step_eq, slid0, qd, upd, mrgB_zero, za, zb, zc, zd, pab, pab', pbc, pbc']
        · by_cases pab : mrgB b a = true
          · have pab' : mrgB a b = true := by rw [mrgB_comm]; exact pab
            by_cases pbc : mrgB c b = true
            · have pbc' : mrgB b c = true := by rw [mrgB_comm]; exact pbc
              by_cases pcd : mrgB d c = true
              · have pcd' : mrgB c d = true := by rw [mrgB_comm]; exact pcd
                simp [slid, step_eq, slid0, qd, upd, mrgB_zero, za, zb, zc, zd, pab, pab', pbc, pbc', pcd, pcd']
              · have pcd : mrgB d c = false := by simpa using pcd
                have pcd' : mrgB c d = false := by rw [mrgB_comm]; exact pcd
                simp [slid, step_eq, slid0, qd, upd, mrgB_zero, za, zb, zc, zd, pab, pab', pbc, pbc', pcd, pcd']
            · have pbc : mrgB c b = false := by simpa using pbc
              have pbc' : mrgB b c = false := by rw [mrgB_comm]; exact pbc
              by_cases pcd : mrgB d c = true
              · have pcd' : mrgB c d = true := by rw [mrgB_comm]; exact pcd
                simp [slid, step_eq, slid0, qd, upd, mrgB_zero, za, zb, zc, zd, pab, pab', pbc, pbc', pcd, pcd']
              · have pcd : mrgB d c = false := by simpa using pcd
                have pcd' : mrgB c d = false := by rw [mrgB_comm]; exact pcd
                simp [slid, step_eq, slid0, qd, upd, mrgB_zero, za, zb, zc, zd, pab, pab', pbc, pbc', pcd, pcd']
          · have pab : mrgB b a = false := by simpa using pab
            have pab' : mrgB a b = false := by rw [mrgB_comm]; exact pab
            by_cases pbc : mrgB c b = true
            · have pbc' : mrgB b c = true := by rw [mrgB_comm]; exact pbc
              by_cases pcd : mrgB d c = true
              · have pcd' : mrgB c d = true := by rw [mrgB_comm]; exact pcd
                simp [slid, step_eq, slid0, qd, upd, mrgB_zero, za, zb, zc, zd, pab, pab', pbc, pbc', pcd, pcd']
              · have pcd : mrgB d c = false := by simpa using pcd
                have pcd' : mrgB c d = false := by rw [mrgB_comm]; exact pcd
                simp [slid, step_eq, slid0, qd, upd, mrgB_zero, za, zb, zc, zd, pab, pab', pbc, pbc', pcd, pcd']
            · have pbc : mrgB c b = false := by simpa using pbc
              have pbc' : mrgB b c = false := by rw [mrgB_comm]; exact pbc
              by_cases pcd : mrgB d c = true
              · have pcd' : mrgB c d = true := by rw [mrgB_comm]; exact pcd
                simp [slid, step_eq, slid0, qd, upd, mrgB_zero, za, zb, zc, zd, pab, pab', pbc, pbc', pcd, pcd']
              · have pcd : mrgB d c = false := by simpa using pcd
                have pcd' : mrgB c d = false := by rw [mrgB_comm]; exact pcd
                simp [slid, step_eq, slid0, qd, upd, mrgB_zero, za, zb, zc, zd, pab, pab', pbc, pbc', pcd, pcd']
set_option maxHeartbeats 4000000 in
theorem line_twice (a b c d : Int) : (slid (qd a b c d) 4).mg = 0 → (slid (slid (qd a b c d) 4).row 4).sc = 0 ∧ (slid (slid (qd a b c d) 4).row 4).row 0 = (slid (qd a b c d) 4).row 0 ∧ (slid (slid (qd a b c d) 4).row 4).row 1 = (slid (qd a b c d) 4).row 1 ∧ (slid (slid (qd a b c d) 4).row 4).row 2 = (slid (qd a b c d) 4).row 2 ∧ (slid (slid (qd a b c d) 4).row 4).row 3 = (slid (qd a b c d) 4).row 3 := by
  by_cases za : a = 0
  · by_cases zb : b = 0
    · by_cases zc : c = 0
      · by_cases zd : d = 0
        · simp [slid, step_eq, slid0, qd, upd, mrgB_zero, za, zb, zc, zd]
        · simp [slid, step_eq, slid0, qd, upd, mrgB_zero, za, zb, zc, zd]
      · by_cases zd : d = 0
        · simp [slid, step_eq, slid0, qd, upd, mrgB_zero, za, zb, zc, zd]
        · by_cases pcd : mrgB d c = true
          · have pcd' : mrgB c d = true := by rw [mrgB_comm]; exact pcd
            simp [slid, step_eq, slid0, qd, upd, mrgB_zero, za, zb, zc, zd, pcd, pcd']
          · have pcd : mrgB d c = false := by simpa using pcd
            have pcd' : mrgB c d = false := by rw [mrgB_comm]; exact pcd
            simp [slid, step_eq, slid0, qd, upd, mrgB_zero, za, zb, zc, zd, pcd, pcd']
    · by_cases zc : c = 0
      · by_cases zd : d = 0
        · simp [slid, step_eq, slid0, qd, upd, mrgB_zero, za, zb, zc, zd]
        · by_cases pbd : mrgB d b = true
          · have pbd' : mrgB b d = true := by rw [mrgB_comm]; exact pbd
            simp [slid, step_eq, slid0, qd, upd, mrgB_zero, za, zb, zc, zd, pbd, pbd']
          · have pbd : mrgB d b = false := by simpa using pbd
            have pbd' : mrgB b d = false := by rw [mrgB_comm]; exact pbd
            simp [slid, step_eq, slid0, qd, upd, mrgB_zero, za, zb, zc, zd, pbd, pbd']
      · by_cases zd : d = 0
        · by_cases pbc : mrgB c b = true
          · have pbc' : mrgB b c = true := by rw [mrgB_comm]; exact pbc
            simp [slid, step_eq, slid0, qd, upd, mrgB_zero, za, zb, zc, zd, pbc, pbc']
          · have pbc : mrgB c b = false := by simpa using pbc
            have pbc' : mrgB b c = false := by rw [mrgB_comm]; exact pbc
            simp [slid, step_eq, slid0, qd, upd, mrgB_zero, za, zb, zc, zd, pbc, pbc']
        · by_cases pbc : mrgB c b = true
          · have pbc' : mrgB b c = true := by rw [mrgB_comm]; exact pbc
            by_cases pcd : mrgB d c = true
            · have pcd' : mrgB c d = true := by rw [mrgB_comm]; exact pcd
              simp [slid, step_eq, slid0, qd, upd, mrgB_zero, za, zb, zc, zd, pbc, pbc', pcd, pcd']
            · have pcd : mrgB d c = false := by simpa using pcd
              have pcd' : mrgB c d = false := by rw [mrgB_comm]; exact pcd
              simp [slid, step_eq, slid0, qd, upd, mrgB_zero, za, zb, zc, zd, pbc, pbc', pcd, pcd']
          · have pbc : mrgB c b = false := by simpa using pbc
            have pbc' : mrgB b c = false := by rw [mrgB_comm]; exact pbc
            by_cases pcd : mrgB d c = true
            · have pcd' : mrgB c d = true := by rw [mrgB_comm]; exact pcd
              simp [slid, step_eq, slid0, qd, upd, mrgB_zero, za, zb, zc, zd, pbc, pbc', pcd, pcd']
            · have pcd : mrgB d c = false := by simpa using pcd
              have pcd' : mrgB c d = false := by rw [mrgB_comm]; exact pcd
              simp [slid, step_eq, slid0, qd, upd, mrgB_zero, za, zb, zc, zd, pbc, pbc', pcd, pcd']
  · by_cases zb : b = 0
    · by_cases zc : c = 0
      · by_cases zd : d = 0
        · simp [slid, step_eq, slid0, qd, upd, mrgB_zero, za, zb, zc, zd]
        · by_cases pad : mrgB d a = true
          · have pad' : mrgB a d = true := by rw [mrgB_comm]; exact pad
            simp [slid, step_eq, slid0, qd, upd, mrgB_zero, za, zb, zc, zd, pad, pad']
          · have pad : mrgB d a = false := by simpa using pad
            have pad' : mrgB a d = false := by rw [mrgB_comm]; exact pad
            simp [slid, step_eq, slid0, qd, upd, mrgB_zero, za, zb, zc, zd, pad, pad']
      · by_cases zd : d = 0
        · by_cases pac : mrgB c a = true
          · have pac' : mrgB a c = true := by rw [mrgB_comm]; exact pac
            simp [slid, step_eq, slid0, qd, upd, mrgB_zero, za, zb, zc, zd, pac, pac']
          · have pac : mrgB c a = false := by simpa using pac
            have pac' : mrgB a c = false := by rw [mrgB_comm]; exact pac
            simp [slid, step_eq, slid0, qd, upd, mrgB_zero, za, zb, zc, zd, pac, pac']
        · by_cases pac : mrgB c a = true
          · have pac' : mrgB a c = true := by rw [mrgB_comm]; exact pac
            by_cases pcd : mrgB d c = true
            · have pcd' : mrgB c d = true := by rw [mrgB_comm]; exact pcd
              simp [slid, step_eq, slid0, qd, upd, mrgB_zero, za, zb, zc, zd, pac, pac', pcd, pcd']
            · have pcd : mrgB d c = false := by simpa using pcd
              have pcd' : mrgB c d = false := by rw [mrgB_comm]; exact pcd
              simp [slid, step_eq, slid0, qd, upd, mrgB_zero, za, zb, zc, zd, pac, pac', pcd, pcd']
          · have pac : mrgB c a = false := by simpa using pac
            have pac' : mrgB a c = false := by rw [mrgB_comm]; exact pac
            by_cases pcd : mrgB d c = true
            · have pcd' : mrgB c d = true := by rw [mrgB_comm]; exact pcd
              simp [slid, step_eq, slid0, qd, upd, mrgB_zero, za, zb, zc, zd, pac, pac', pcd, pcd']
            · have pcd : mrgB d c = false := by simpa using pcd
              have pcd' : mrgB c d = false := by rw [mrgB_comm]; exact pcd
              simp [slid, step_eq, slid0, qd, upd, mrgB_zero, za, zb, zc, zd, pac, pac', pcd, pcd']
    · by_cases zc : c = 0
      · by_cases zd : d = 0
        · by_cases pab : mrgB b a = true
          · have pab' : mrgB a b = true := by rw [mrgB_comm]; exact pab
            simp [slid, step_eq, slid0, qd, upd, mrgB_zero, za, zb, zc, zd, pab, pab']
          · have pab : mrgB b a = false := by simpa using pab
            have pab' : mrgB a b = false := by rw [mrgB_comm]; exact pab
            simp [slid, step_eq, slid0, qd, upd, mrgB_zero, za, zb, zc, zd, pab, pab']
        · by_cases pab : mrgB b a = true
          · have pab' : mrgB a b = true := by rw [mrgB_comm]; exact pab
            by_cases pbd : mrgB d b = true
            · have pbd' : mrgB b d = true := by rw [mrgB_comm]; exact pbd
              simp [slid, step_eq, slid0, qd, upd, mrgB_zero, za, zb, zc, zd, pab, pab', pbd, pbd']
            · have pbd : mrgB d b = false := by simpa using pbd
              have pbd' : mrgB b d = false := by rw [mrgB_comm]; exact pbd
              simp [slid, step_eq, slid0, qd, upd, mrgB_zero, za, zb, zc, zd, pab, pab', pbd, pbd']
          · have pab : mrgB b a = false := by simpa using pab
            have pab' : mrgB a b = false := by rw [mrgB_comm]; exact pab
            by_cases pbd : mrgB d b = true
            · have pbd' : mrgB b d = true := by rw [mrgB_comm]; exact pbd
              simp [slid, step_eq, slid0, qd, upd, mrgB_zero, za, zb, zc, zd, pab, pab', pbd, pbd']
            · have pbd : mrgB d b = false := by simpa using pbd
              have pbd' : mrgB b d = false := by rw [mrgB_comm]; exact pbd
              simp [slid, step_eq, slid0, qd, upd, mrgB_zero, za, zb, zc, zd, pab, pab', pbd, pbd']
      · by_cases zd : d = 0
        · by_cases pab : mrgB b a = true
          · have pab' : mrgB a b = true := by rw [mrgB_comm]; exact pab
            by_cases pbc : mrgB c b = true
            · have pbc' : mrgB b c = true := by rw [mrgB_comm]; exact pbc
              simp [slid, step_eq, slid0, qd, upd, mrgB_zero, za, zb, zc, zd, pab, pab', pbc, pbc']
            · have pbc : mrgB c b = false := by simpa using pbc
              have pbc' : mrgB b c = false := by rw [mrgB_comm]; exact pbc
              simp [slid, step_eq, slid0, qd, upd, mrgB_zero, za, zb, zc, zd, pab, pab', pbc, pbc']
          · have pab : mrgB b a = false := by simpa using pab
            have pab' : mrgB a b = false := by rw [mrgB_comm]; exact pab
            by_cases pbc : mrgB c b = true
            · have pbc' : mrgB b c = true := by rw [mrgB_comm]; exact pbc
              simp [slid, step_eq, slid0, qd, upd, mrgB_zero, za, zb, zc, zd, pab, pab', pbc, pbc']
            · have pbc : mrgB c b = false := by simpa using pbc
              have pbc' : mrgB b c = false := by rw [mrgB_comm]; exact pbc
              simp [slid, step_eq, slid0, qd, upd, mrgB_zero, za, zb, zc, zd, pab, pab', pbc, pbc']
        · by_cases pab : mrgB b a = true
          · have pab' : mrgB a b = true := by rw [mrgB_comm]; exact pab
            by_cases pbc : mrgB c b = true
            · have pbc' : mrgB b c = true := by rw [mrgB_comm]; exact pbc
              by_cases pcd : mrgB d c = true
              · have pcd' : mrgB c d = true := by rw [mrgB_comm]; exact pcd
                simp [slid, step_eq, slid0, qd, upd, mrgB_zero, za, zb, zc, zd, pab, pab', pbc, pbc', pcd, pcd']
              · have pcd : mrgB d c = false := by simpa using pcd
                have pcd' : mrgB c d = false := by rw [mrgB_comm]; exact pcd
                simp [slid, step_eq, slid0, qd, upd, mrgB_zero, za, zb, zc, zd, pab, pab', pbc, pbc', pcd, pcd']
            · have pbc : mrgB c b = false := by simpa using pbc
              have pbc' : mrgB b c = false := by rw [mrgB_comm]; exact pbc
              by_cases pcd : mrgB d c = true
              · have pcd' : mrgB c d = true := by rw [mrgB_comm]; exact pcd
                simp [slid, step_eq, slid0, qd, upd, mrgB_zero, za, zb, zc, zd, pab, pab', pbc, pbc', pcd, pcd']
              · have pcd : mrgB d c = false := by simpa using pcd
                have pcd' : mrgB c d = false := by rw [mrgB_comm]; exact pcd
                simp [slid, step_eq, slid0, qd, upd, mrgB_zero, za, zb, zc, zd, pab, pab', pbc, pbc', pcd, pcd']
          · have pab : mrgB b a = false := by simpa using pab
            have pab' : mrgB a b = false := by rw [mrgB_comm]; exact pab
            by_cases pbc : mrgB c b = true
            · have pbc' : mrgB b c = true := by rw [mrgB_comm]; exact pbc
              by_cases pcd : mrgB d c = true
              · have pcd' : mrgB c d = true := by rw [mrgB_comm]; exact pcd
                simp [slid, step_eq, slid0, qd, upd, mrgB_zero, za, zb, zc, zd, pab, pab', pbc, pbc', pcd, pcd']
              · have pcd : mrgB d c = false := by simpa using pcd
                have pcd' : mrgB c d = false := by rw [mrgB_comm]; exact pcd
                simp [slid, step_eq, slid0, qd, upd, mrgB_zero, za, zb, zc, zd, pab, pab', pbc, pbc', pcd, pcd']
            · have pbc : mrgB c b = false := by simpa using pbc
              have pbc' : mrgB b c = false := by rw [mrgB_comm]; exact pbc
              by_cases pcd : mrgB d c = true
              · have pcd' : mrgB c d = true := by rw [mrgB_comm]; exact pcd
                simp [slid, step_eq, slid0, qd, upd, mrgB_zero, za, zb, zc, zd, pab, pab', pbc, pbc', pcd, pcd']
              · have pcd : mrgB d c = false := by simpa using pcd
                have pcd' : mrgB c d = false := by rw [mrgB_comm]; exact pcd
                simp [slid, step_eq, slid0, qd, upd, mrgB_zero, za, zb, zc, zd, pab, pab', pbc, pbc', pcd, pcd']
/-- The worths of four numbers. -/
def rs (r : Nat → Int) : Int := worthZ (r 0) + worthZ (r 1) + worthZ (r 2) + worthZ (r 3)
theorem rs_upd (r : Nat → Int) {i : Nat} (hi : i < 4) (v : Int) : rs (upd r i v) = rs r - worthZ (r i) + worthZ v := by
  rcases (by omega : i = 0 ∨ i = 1 ∨ i = 2 ∨ i = 3) with rfl | rfl | rfl | rfl <;> (simp [rs, upd] <;> omega)
theorem rs_congr {r s : Nat → Int} (h : ∀ i, i < 4 → r i = s i) : rs r = rs s := by
  unfold rs; rw [h 0 (by omega), h 1 (by omega), h 2 (by omega), h 3 (by omega)]
def sumk (f : Nat → Int) : Nat → Int
  | 0 => 0
  | k + 1 => sumk f k + worthZ (f k)
theorem worth_two {t : Int} (h0 : 0 ≤ t) (h1 : t ≤ 17) : worth (t + 1) = worth t + worth t := by
  rcases (by omega : t = 0 ∨ t = 1 ∨ t = 2 ∨ t = 3 ∨ t = 4 ∨ t = 5 ∨ t = 6 ∨ t = 7 ∨ t = 8 ∨ t = 9 ∨ t = 10 ∨ t = 11 ∨ t = 12 ∨ t = 13 ∨ t = 14 ∨ t = 15 ∨ t = 16 ∨ t = 17) with rfl | rfl | rfl | rfl | rfl | rfl | rfl | rfl | rfl | rfl | rfl | rfl | rfl | rfl | rfl | rfl | rfl | rfl <;> decide
theorem slid_sum {f : Nat → Int} (hf : VdRow f) : ∀ k, k ≤ 4 → rs (slid f k).row = sumk f k
  | 0, _ => by simp [slid, slid0, rs, sumk, worthZ]
  | k + 1, hk => by
    have ih := slid_sum hf k (by omega)
    have ho := slid_ok hf k (by omega)
    have ht := hf k (by omega)
    have hn := ho.n_le
    show rs (slidStep (slid f k) (f k)).row = sumk f k + worthZ (f k)
    rw [← ih]
    unfold slidStep
    by_cases h0 : f k = 0
    · rw [if_pos h0, h0]; simp [worthZ]
    · rw [if_neg h0]
      by_cases hm : f k = (slid f k).op ∧ f k < 17
      · rw [if_pos hm]
        obtain ⟨l1, l2⟩ := ho.last (by rw [← hm.1]; exact h0)
        show rs (upd (slid f k).row ((slid f k).n - 1) (f k + 1)) = _
        rw [rs_upd _ (by omega), l2, ← hm.1]
        have hw := worth_two ht.1 ht.2
        unfold worthZ
        rw [if_pos (by omega), if_pos (by omega), hw]
        omega
      · rw [if_neg hm]
        show rs (upd (slid f k).row (slid f k).n (f k)) = _
        rw [rs_upd _ (by omega), ho.rest _ (Nat.le_refl _)]
        have : worthZ 0 = 0 := rfl
        omega
theorem sumk_rs (f : Nat → Int) : sumk f 4 = rs f := by simp [sumk, rs]
theorem sum_lines (g : Nat → Int) {d : Nat} (hd : d < 4) : sumF g 16 = rs (lineF g d 0) + rs (lineF g d 1) + rs (lineF g d 2) + rs (lineF g d 3) := by
  rcases (by omega : d = 0 ∨ d = 1 ∨ d = 2 ∨ d = 3) with rfl | rfl | rfl | rfl <;> (simp [sumF, rs, lineF, pos] <;> omega)
theorem slideB_at (f : Nat → Int) (d : Nat) {i k : Nat} (hi : i < 4) (hk : k < 4) : lineF (slideB f d) d i k = (slid (lineF f d i) 4).row k := by
  show (slid (lineF f d (lineOf d (pos d i k))) 4).row (placeOf d (pos d i k)) = _
  rw [lineOf_pos hi hk, placeOf_pos hi hk]
theorem rs_slide {f : Nat → Int} (hf : Vd f) (d : Nat) {i : Nat} (hi : i < 4) : rs (lineF (slideB f d) d i) = rs (lineF f d i) := by
  rw [rs_congr (fun k hk => slideB_at f d hi hk), slid_sum (lineF_vd hf d hi) 4 (Nat.le_refl _), sumk_rs]
theorem sum_slide {f : Nat → Int} (hf : Vd f) {d : Nat} (hd : d < 4) : sumF (slideB f d) 16 = sumF f 16 := by
  rw [sum_lines _ hd, sum_lines f hd, rs_slide hf d (by omega), rs_slide hf d (by omega), rs_slide hf d (by omega), rs_slide hf d (by omega)]
theorem slid_qd (f : Nat → Int) : slid f 4 = slid (qd (f 0) (f 1) (f 2) (f 3)) 4 := slid_congr 4 (qd_line f)
theorem pos_opp : ∀ d, d < 4 → ∀ i, i < 4 → ∀ k, k < 4 → pos ((d + 2) % 4) i k = pos d i (3 - k) := by decide
theorem mg_opp (f : Nat → Int) {d : Nat} (hd : d < 4) {i : Nat} (hi : i < 4) : (slid (lineF f ((d + 2) % 4) i) 4).mg = (slid (lineF f d i) 4).mg := by
  rw [slid_qd (lineF f ((d + 2) % 4) i), slid_qd (lineF f d i)]
  have e : ∀ k, k < 4 → lineF f ((d + 2) % 4) i k = lineF f d i (3 - k) := fun k hk => by
    show f (pos ((d + 2) % 4) i k) = f (pos d i (3 - k))
    rw [pos_opp d hd i hi k hk]
  rw [e 0 (by omega), e 1 (by omega), e 2 (by omega), e 3 (by omega)]
  exact (mg_turn _ _ _ _).symm
theorem merg_opp (f : Nat → Int) {d : Nat} (hd : d < 4) : slideM f ((d + 2) % 4) 4 = slideM f d 4 := by
  simp only [slideM, mg_opp f hd (show 0 < 4 by omega), mg_opp f hd (show 1 < 4 by omega), mg_opp f hd (show 2 < 4 by omega), mg_opp f hd (show 3 < 4 by omega)]
theorem lines_mg {f : Nat → Int} (hf : Vd f) {d : Nat} (h : slideM f d 4 = 0) : ∀ i, i < 4 → (slid (lineF f d i) 4).mg = 0 := by
  have a0 := (slid_ok (lineF_vd hf d (i := 0) (by omega)) 4 (Nat.le_refl _)).mg0
  have a1 := (slid_ok (lineF_vd hf d (i := 1) (by omega)) 4 (Nat.le_refl _)).mg0
  have a2 := (slid_ok (lineF_vd hf d (i := 2) (by omega)) 4 (Nat.le_refl _)).mg0
  have a3 := (slid_ok (lineF_vd hf d (i := 3) (by omega)) 4 (Nat.le_refl _)).mg0
  have e : slideM f d 4 = 0 + (slid (lineF f d 0) 4).mg + (slid (lineF f d 1) 4).mg + (slid (lineF f d 2) 4).mg + (slid (lineF f d 3) 4).mg := rfl
  intro i hi
  rcases (by omega : i = 0 ∨ i = 1 ∨ i = 2 ∨ i = 3) with rfl | rfl | rfl | rfl <;> omega
theorem line_again {f : Nat → Int} (h : (slid f 4).mg = 0) : (slid (slid f 4).row 4).sc = 0 ∧ ∀ k, k < 4 → (slid (slid f 4).row 4).row k = (slid f 4).row k := by
  rw [slid_qd f] at h ⊢
  obtain ⟨h1, r0, r1, r2, r3⟩ := line_twice _ _ _ _ h
  refine ⟨h1, fun k hk => ?_⟩
  rcases (by omega : k = 0 ∨ k = 1 ∨ k = 2 ∨ k = 3) with rfl | rfl | rfl | rfl
  · exact r0
  · exact r1
  · exact r2
  · exact r3
theorem slid_again (f : Nat → Int) (d : Nat) {i : Nat} (hi : i < 4) : slid (lineF (slideB f d) d i) 4 = slid (slid (lineF f d i) 4).row 4 := slid_congr 4 fun _ hk => slideB_at f d hi hk
/-- A second slide moves only what has merged. -/
theorem slide_again {f : Nat → Int} (hf : Vd f) {d : Nat} (h : slideM f d 4 = 0) : (∀ j, j < 16 → slideB (slideB f d) d j = slideB f d j) ∧ slideS (slideB f d) d 4 = 0 := by
  have hl := lines_mg hf h
  constructor
  · intro j hj
    show (slid (lineF (slideB f d) d (lineOf d j)) 4).row (placeOf d j) = (slid (lineF f d (lineOf d j)) 4).row (placeOf d j)
    rw [slid_again f d (lineOf_lt hj)]
    exact (line_again (hl _ (lineOf_lt hj))).2 _ (placeOf_lt hj)
  · simp only [slideS, slid_again f d (show 0 < 4 by omega), slid_again f d (show 1 < 4 by omega), slid_again f d (show 2 < 4 by omega), slid_again f d (show 3 < 4 by omega)]
    rw [(line_again (hl 0 (by omega))).1, (line_again (hl 1 (by omega))).1, (line_again (hl 2 (by omega))).1, (line_again (hl 3 (by omega))).1]
    rfl
theorem sc_mg {f : Nat → Int} (hf : VdRow f) : ∀ k, k ≤ 4 → (0 < (slid f k).sc ↔ 0 < (slid f k).mg)
  | 0, _ => by simp [slid, slid0]
  | k + 1, hk => by
    have ih := sc_mg hf k (by omega)
    have ho := slid_ok hf k (by omega)
    have ht := hf k (by omega)
    have h1 := ho.sc0
    have h2 := ho.mg0
    show 0 < (slidStep (slid f k) (f k)).sc ↔ 0 < (slidStep (slid f k) (f k)).mg
    unfold slidStep
    by_cases h0 : f k = 0
    · simp only [if_pos h0]; exact ih
    · simp only [if_neg h0]
      by_cases hm : f k = (slid f k).op ∧ f k < 17
      · simp only [if_pos hm]
        have := worth_bd (t := f k + 1) (by omega) (by omega)
        omega
      · simp only [if_neg hm]; exact ih
theorem score_mg {f : Nat → Int} (hf : Vd f) (d : Nat) : 0 < slideS f d 4 ↔ 0 < slideM f d 4 := by
  have b := fun i (hi : i < 4) => sc_mg (lineF_vd hf d hi) 4 (Nat.le_refl _)
  have c := fun i (hi : i < 4) => slid_ok (lineF_vd hf d hi) 4 (Nat.le_refl _)
  have b0 := b 0 (by omega); have b1 := b 1 (by omega); have b2 := b 2 (by omega); have b3 := b 3 (by omega)
  have s0 := (c 0 (by omega)).sc0; have s1 := (c 1 (by omega)).sc0; have s2 := (c 2 (by omega)).sc0; have s3 := (c 3 (by omega)).sc0
  have m0 := (c 0 (by omega)).mg0; have m1 := (c 1 (by omega)).mg0; have m2 := (c 2 (by omega)).mg0; have m3 := (c 3 (by omega)).mg0
  have e1 : slideM f d 4 = 0 + (slid (lineF f d 0) 4).mg + (slid (lineF f d 1) 4).mg + (slid (lineF f d 2) 4).mg + (slid (lineF f d 3) 4).mg := rfl
  have e2 : slideS f d 4 = 0 + (slid (lineF f d 0) 4).sc + (slid (lineF f d 1) 4).sc + (slid (lineF f d 2) 4).sc + (slid (lineF f d 3) 4).sc := rfl
  rw [e1, e2]
  omega
/-- No slide is a move. -/
def NoMv (f : Nat → Int) : Prop := ∀ d, d < 4 → ∀ j, j < 16 → slideB f d j = f j
theorem fix_row {f : Nat → Int} (h : NoMv f) {d : Nat} (hd : d < 4) {i k : Nat} (hi : i < 4) (hk : k < 4) : (slid (lineF f d i) 4).row k = lineF f d i k := by
  rw [← slideB_at f d hi hk]
  exact h d hd _ (pos_lt hi hk)
theorem fix_zero {f : Nat → Int} (hf : Vd f) (h : NoMv f) {d : Nat} (hd : d < 4) {i k l : Nat} (hi : i < 4) (hk : k ≤ l) (hl : l < 4) (h0 : lineF f d i k = 0) : lineF f d i l = 0 := by
  have ho := slid_ok (lineF_vd hf d hi) 4 (Nat.le_refl _)
  by_cases hn : k < (slid (lineF f d i) 4).n
  · exact absurd ((fix_row h hd hi (by omega)).trans h0) (ho.full k hn)
  · rw [← fix_row h hd hi hl]; exact ho.rest l (by omega)
theorem row_all {f : Nat → Int} (hf : Vd f) (h : NoMv f) {r c c2 : Nat} (hr : r < 4) (hc : c < 4) (hc2 : c2 < 4) (h0 : f (r * 4 + c) = 0) : f (r * 4 + c2) = 0 := by
  by_cases l : c ≤ c2
  · exact fix_zero hf h (d := 0) (by omega) hr l hc2 h0
  · have := fix_zero hf h (d := 2) (i := r) (k := 3 - c) (l := 3 - c2) (by omega) hr (by omega) (by omega) (by
      show f (r * 4 + (3 - (3 - c))) = 0
      rw [show 3 - (3 - c) = c by omega]; exact h0)
    have e : lineF f 2 r (3 - c2) = f (r * 4 + (3 - (3 - c2))) := rfl
    rw [e, show 3 - (3 - c2) = c2 by omega] at this
    exact this
theorem col_all {f : Nat → Int} (hf : Vd f) (h : NoMv f) {r r2 c : Nat} (hr : r < 4) (hr2 : r2 < 4) (hc : c < 4) (h0 : f (r * 4 + c) = 0) : f (r2 * 4 + c) = 0 := by
  by_cases l : r ≤ r2
  · exact fix_zero hf h (d := 1) (by omega) hc l hr2 h0
  · have := fix_zero hf h (d := 3) (i := c) (k := 3 - r) (l := 3 - r2) (by omega) hc (by omega) (by omega) (by
      show f ((3 - (3 - r)) * 4 + c) = 0
      rw [show 3 - (3 - r) = r by omega]; exact h0)
    have e : lineF f 3 c (3 - r2) = f ((3 - (3 - r2)) * 4 + c) := rfl
    rw [e, show 3 - (3 - r2) = r2 by omega] at this
    exact this
theorem zero_all {f : Nat → Int} (hf : Vd f) (h : NoMv f) {j : Nat} (hj : j < 16) (h0 : f j = 0) : ∀ l, l < 16 → f l = 0 := by
  intro l hl
  have h1 := row_all hf h (r := j / 4) (c := j % 4) (c2 := l % 4) (by omega) (by omega) (by omega) (by rw [show j / 4 * 4 + j % 4 = j by omega]; exact h0)
  have h2 := col_all hf h (r := j / 4) (r2 := l / 4) (c := l % 4) (by omega) (by omega) (by omega) h1
  rw [show l / 4 * 4 + l % 4 = l by omega] at h2
  exact h2
theorem empN_all {f : Nat → Int} : ∀ k, (∀ j, j < k → f j = 0) → empN f k = k
  | 0, _ => rfl
  | k + 1, h => by rw [empN_step, empN_all k (fun j hj => h j (by omega)), if_pos (h k (by omega))]
theorem empN_none {f : Nat → Int} : ∀ k, (∀ j, j < k → f j ≠ 0) → empN f k = 0
  | 0, _ => rfl
  | k + 1, h => by rw [empN_step, empN_none k (fun j hj => h j (by omega)), if_neg (h k (by omega))]
theorem empN_full {f : Nat → Int} : ∀ k, empN f k = k → ∀ j, j < k → f j = 0
  | 0, _, j, hj => by omega
  | k + 1, h, j, hj => by
    rw [empN_step] at h
    have hl := empN_le f k
    by_cases h0 : f k = 0
    · rw [if_pos h0] at h
      by_cases e : j = k
      · subst e; exact h0
      · exact empN_full k (by omega) j (by omega)
    · rw [if_neg h0] at h; omega
theorem empN_nil {f : Nat → Int} : ∀ k, empN f k = 0 → ∀ j, j < k → f j ≠ 0
  | 0, _, j, hj => by omega
  | k + 1, h, j, hj => by
    rw [empN_step] at h
    by_cases h0 : f k = 0
    · rw [if_pos h0] at h; omega
    · by_cases e : j = k
      · subst e; exact h0
      · exact empN_nil k (by omega) j (by omega)
theorem pr_mrg {a b : Int} (h : mrgB b a = false) : pr a b = 0 := by
  unfold pr
  rw [if_neg]
  rintro ⟨e, _, l⟩
  unfold mrgB at h
  have := of_decide_eq_false h
  exact this ⟨e, by omega⟩
theorem mrg_pr {a b : Int} (hb0 : b ≠ 0) (hb : 0 ≤ b) (h : pr a b = 0) : mrgB b a = false := by
  unfold mrgB
  apply decide_eq_false
  rintro ⟨e, l⟩
  unfold pr at h
  rw [if_pos ⟨e, by omega, by omega⟩] at h
  omega
theorem pr_nn (a b : Int) : 0 ≤ pr a b := by unfold pr; split <;> omega
theorem full_mg (a b c d : Int) (za : a ≠ 0) (zb : b ≠ 0) (zc : c ≠ 0) (zd : d ≠ 0) : (slid (qd a b c d) 4).mg = 0 → mrgB b a = false ∧ mrgB c b = false ∧ mrgB d c = false := by
  by_cases p1 : mrgB b a = true
  · by_cases p3 : mrgB d c = true
    · simp [slid, step_eq, slid0, qd, mrgB_zero, za, zb, zc, zd, p1, p3]
    · have p3 : mrgB d c = false := by simpa using p3
      simp [slid, step_eq, slid0, qd, mrgB_zero, za, zb, zc, zd, p1, p3]
  · have p1 : mrgB b a = false := by simpa using p1
    by_cases p2 : mrgB c b = true
    · simp [slid, step_eq, slid0, qd, mrgB_zero, za, zb, zc, zd, p1, p2]
    · have p2 : mrgB c b = false := by simpa using p2
      by_cases p3 : mrgB d c = true
      · simp [slid, step_eq, slid0, qd, mrgB_zero, za, zb, zc, zd, p1, p2, p3]
      · have p3 : mrgB d c = false := by simpa using p3
        simp [slid, step_eq, slid0, qd, mrgB_zero, za, zb, zc, zd, p1, p2, p3]
theorem full_fix (a b c d : Int) (za : a ≠ 0) (zb : b ≠ 0) (zc : c ≠ 0) (zd : d ≠ 0) (p1 : mrgB b a = false) (p2 : mrgB c b = false) (p3 : mrgB d c = false) : ∀ k, k < 4 → (slid (qd a b c d) 4).row k = qd a b c d k := by
  intro k hk
  rcases (by omega : k = 0 ∨ k = 1 ∨ k = 2 ∨ k = 3) with rfl | rfl | rfl | rfl <;> simp [slid, step_eq, slid0, qd, upd, mrgB_zero, za, zb, zc, zd, p1, p2, p3]
theorem no_mg {f : Nat → Int} (hf : Vd f) (h : NoMv f) {d : Nat} (hd : d < 4) : slideM f d 4 = 0 := by
  have := emp_slide hf hd
  rw [empN_congr (h d hd)] at this
  omega
theorem lines_free {f : Nat → Int} (hf : Vd f) (h : NoMv f) (hz : ∀ j, j < 16 → f j ≠ 0) {d : Nat} (hd : d < 4) {i : Nat} (hi : i < 4) : ∀ k, k < 3 → pr (lineF f d i k) (lineF f d i (k + 1)) = 0 := by
  have hm := lines_mg hf (no_mg hf h hd) i hi
  rw [slid_qd] at hm
  obtain ⟨p1, p2, p3⟩ := full_mg _ _ _ _ (hz _ (pos_lt hi (by omega))) (hz _ (pos_lt hi (by omega))) (hz _ (pos_lt hi (by omega))) (hz _ (pos_lt hi (by omega))) hm
  intro k hk
  rcases (by omega : k = 0 ∨ k = 1 ∨ k = 2) with rfl | rfl | rfl
  · exact pr_mrg p1
  · exact pr_mrg p2
  · exact pr_mrg p3
theorem plines_lines (f : Nat → Int) : plines f 4 = (pr (lineF f 0 0 0) (lineF f 0 0 1) + pr (lineF f 0 0 1) (lineF f 0 0 2) + pr (lineF f 0 0 2) (lineF f 0 0 3)) + (pr (lineF f 0 1 0) (lineF f 0 1 1) + pr (lineF f 0 1 1) (lineF f 0 1 2) + pr (lineF f 0 1 2) (lineF f 0 1 3)) + (pr (lineF f 0 2 0) (lineF f 0 2 1) + pr (lineF f 0 2 1) (lineF f 0 2 2) + pr (lineF f 0 2 2) (lineF f 0 2 3)) + (pr (lineF f 0 3 0) (lineF f 0 3 1) + pr (lineF f 0 3 1) (lineF f 0 3 2) + pr (lineF f 0 3 2) (lineF f 0 3 3)) + (pr (lineF f 1 0 0) (lineF f 1 0 1) + pr (lineF f 1 0 1) (lineF f 1 0 2) + pr (lineF f 1 0 2) (lineF f 1 0 3)) + (pr (lineF f 1 1 0) (lineF f 1 1 1) + pr (lineF f 1 1 1) (lineF f 1 1 2) + pr (lineF f 1 1 2) (lineF f 1 1 3)) + (pr (lineF f 1 2 0) (lineF f 1 2 1) + pr (lineF f 1 2 1) (lineF f 1 2 2) + pr (lineF f 1 2 2) (lineF f 1 2 3)) + (pr (lineF f 1 3 0) (lineF f 1 3 1) + pr (lineF f 1 3 1) (lineF f 1 3 2) + pr (lineF f 1 3 2) (lineF f 1 3 3)) := by
  simp only [plines, prow_three]
  omega
theorem pairs_none {f : Nat → Int} (h : plines f 4 = 0) : ∀ d, d < 2 → ∀ i, i < 4 → ∀ k, k < 3 → pr (lineF f d i k) (lineF f d i (k + 1)) = 0 := by
  rw [plines_lines] at h
  have nn := fun d i k => pr_nn (lineF f d i k) (lineF f d i (k + 1))
  have n0 := nn 0 0 0
  have n1 := nn 0 0 1
  have n2 := nn 0 0 2
  have n3 := nn 0 1 0
  have n4 := nn 0 1 1
  have n5 := nn 0 1 2
  have n6 := nn 0 2 0
  have n7 := nn 0 2 1
  have n8 := nn 0 2 2
  have n9 := nn 0 3 0
  have n10 := nn 0 3 1
  have n11 := nn 0 3 2
  have n12 := nn 1 0 0
  have n13 := nn 1 0 1
  have n14 := nn 1 0 2
  have n15 := nn 1 1 0
  have n16 := nn 1 1 1
  have n17 := nn 1 1 2
  have n18 := nn 1 2 0
  have n19 := nn 1 2 1
  have n20 := nn 1 2 2
  have n21 := nn 1 3 0
  have n22 := nn 1 3 1
  have n23 := nn 1 3 2
  intro d hd i hi k hk
  rcases (by omega : d = 0 ∨ d = 1) with rfl | rfl <;> rcases (by omega : i = 0 ∨ i = 1 ∨ i = 2 ∨ i = 3) with rfl | rfl | rfl | rfl <;> rcases (by omega : k = 0 ∨ k = 1 ∨ k = 2) with rfl | rfl | rfl <;> (simp only [Nat.zero_add, Nat.reduceAdd] at *; omega)
theorem pairs_any {f : Nat → Int} (h : plines f 4 = 0) : ∀ d, d < 4 → ∀ i, i < 4 → ∀ k, k < 3 → pr (lineF f d i k) (lineF f d i (k + 1)) = 0 := by
  intro d hd i hi k hk
  by_cases h2 : d < 2
  · exact pairs_none h d h2 i hi k hk
  · have e : ∀ k, k < 4 → lineF f d i k = lineF f (d - 2) i (3 - k) := fun k hk => by
      show f (pos d i k) = f (pos (d - 2) i (3 - k))
      have := pos_opp (d - 2) (by omega) i hi k hk
      rw [show (d - 2 + 2) % 4 = d by omega] at this
      rw [this]
    rw [e k (by omega), e (k + 1) (by omega), pr_comm]
    have := pairs_none h (d - 2) (by omega) i hi (3 - (k + 1)) (by omega)
    rw [show 3 - (k + 1) + 1 = 3 - k by omega] at this
    exact this
/-- A board is over exactly if it is empty, or full without equal neighbors. -/
theorem over_iff {f : Nat → Int} (hf : Vd f) : NoMv f ↔ empN f 16 = 16 ∨ (empN f 16 = 0 ∧ plines f 4 = 0) := by
  constructor
  · intro h
    by_cases hz : ∃ j, j < 16 ∧ f j = 0
    · obtain ⟨j, hj, h0⟩ := hz
      exact .inl (empN_all 16 (zero_all hf h hj h0))
    · have hz2 : ∀ j, j < 16 → f j ≠ 0 := fun j hj h0 => hz ⟨j, hj, h0⟩
      refine .inr ⟨empN_none 16 hz2, ?_⟩
      have hl := fun d (hd : d < 4) i (hi : i < 4) k (hk : k < 3) => lines_free hf h hz2 hd hi k hk
      rw [plines_lines]
      have q := fun d (hd : d < 4) i (hi : i < 4) => (hl d hd i hi 0 (by omega))
      have q1 := fun d (hd : d < 4) i (hi : i < 4) => (hl d hd i hi 1 (by omega))
      have q2 := fun d (hd : d < 4) i (hi : i < 4) => (hl d hd i hi 2 (by omega))
      simp only [Nat.zero_add, Nat.reduceAdd] at q q1 q2
      simp only [q 0 (by omega) 0 (by omega), q 0 (by omega) 1 (by omega), q 0 (by omega) 2 (by omega), q 0 (by omega) 3 (by omega), q 1 (by omega) 0 (by omega), q 1 (by omega) 1 (by omega), q 1 (by omega) 2 (by omega), q 1 (by omega) 3 (by omega), q1 0 (by omega) 0 (by omega), q1 0 (by omega) 1 (by omega), q1 0 (by omega) 2 (by omega), q1 0 (by omega) 3 (by omega), q1 1 (by omega) 0 (by omega), q1 1 (by omega) 1 (by omega), q1 1 (by omega) 2 (by omega), q1 1 (by omega) 3 (by omega), q2 0 (by omega) 0 (by omega), q2 0 (by omega) 1 (by omega), q2 0 (by omega) 2 (by omega), q2 0 (by omega) 3 (by omega), q2 1 (by omega) 0 (by omega), q2 1 (by omega) 1 (by omega), q2 1 (by omega) 2 (by omega), q2 1 (by omega) 3 (by omega)]
      rfl
  · rintro (h | ⟨h, hp⟩)
    · have hz := empN_full 16 h
      intro d hd j hj
      show (slid (lineF f d (lineOf d j)) 4).row (placeOf d j) = f j
      have : slid (lineF f d (lineOf d j)) 4 = slid (fun _ => 0) 4 := slid_congr 4 fun k hk => hz _ (pos_lt (lineOf_lt hj) hk)
      rw [this, hz j hj]
      rfl
    · have hz := empN_nil 16 h
      intro d hd j hj
      have hi := lineOf_lt (d := d) hj
      have hpr := pairs_any hp d hd _ hi
      have hv := lineF_vd hf d hi
      have hn := fun k (hk : k < 4) => hz _ (pos_lt (d := d) hi hk)
      have key := full_fix (lineF f d (lineOf d j) 0) (lineF f d (lineOf d j) 1) (lineF f d (lineOf d j) 2) (lineF f d (lineOf d j) 3) (hn 0 (by omega)) (hn 1 (by omega)) (hn 2 (by omega)) (hn 3 (by omega))
        (mrg_pr (hn 1 (by omega)) (hv 1 (by omega)).1 (hpr 0 (by omega))) (mrg_pr (hn 2 (by omega)) (hv 2 (by omega)).1 (hpr 1 (by omega))) (mrg_pr (hn 3 (by omega)) (hv 3 (by omega)).1 (hpr 2 (by omega))) (placeOf d j) (placeOf_lt hj)
      show (slid (lineF f d (lineOf d j)) 4).row (placeOf d j) = f j
      rw [slid_qd, key, ← qd_line _ _ (placeOf_lt hj)]
      show f (pos d (lineOf d j) (placeOf d j)) = f j
      rw [pos_of hj]
end Go.Proofs.Ytfjpdopljmilpaa.Plain
namespace Go.Proofs.Ytfjpdopljmilpaa.Plain
set_option linter.unusedSimpArgs false
instance (f : Nat → Int) : Decidable (VdRow f) := by unfold VdRow; infer_instance
def rwO (f : Nat → Int) : Bool := decide (VdRow f)
theorem rwO_yes {f : Nat → Int} (h : VdRow f) : rwO f = true := by simp [rwO, h]
theorem rwO_no {f : Nat → Int} (h : ¬ VdRow f) : rwO f = false := by simp [rwO, h]
theorem vdRow_congr {f g : Nat → Int} (h : ∀ i, i < 4 → f i = g i) (hf : VdRow f) : VdRow g := fun i hi => by rw [← h i hi]; exact hf i hi
/-- The board whose first row is f, without other tiles. -/
def topF (f : Nat → Int) : Nat → Int := fun j => if j < 4 then f j else 0
theorem topF_vd {f : Nat → Int} : Vd (topF f) ↔ VdRow f := by
  constructor
  · intro h i hi
    have := h i (by omega)
    unfold topF at this
    rwa [if_pos hi] at this
  · intro h i hi
    unfold topF
    split
    · exact h i (by omega)
    · omega
theorem slid_vd {f : Nat → Int} (h : VdRow f) : VdRow (slid f 4).row := fun j _ => ⟨(slid_ok h 4 (Nat.le_refl _)).row0 j, (slid_ok h 4 (Nat.le_refl _)).row1 j⟩
def rsR (f : Nat → Int) : Nat → Int := if VdRow f then (slid f 4).row else fun _ => 0
def rsS (f : Nat → Int) : Int := if VdRow f then (slid f 4).sc else 0
def rsM (f : Nat → Int) : Int := if VdRow f then (slid f 4).mg else 0
theorem rs_yes {f : Nat → Int} (h : VdRow f) : rwO f = true ∧ rsR f = (slid f 4).row ∧ rsS f = (slid f 4).sc ∧ rsM f = (slid f 4).mg := by simp [rwO, rsR, rsS, rsM, h]
theorem rs_no {f : Nat → Int} (h : ¬ VdRow f) : rwO f = false ∧ rsR f = (fun _ => 0) ∧ rsS f = 0 ∧ rsM f = 0 := by simp [rwO, rsR, rsS, rsM, h]

/-- No 0 comes before another number. -/
def FlP (f : Nat → Int) : Prop := ∀ k, 1 ≤ k → k < 4 → f k ≠ 0 → f (k - 1) ≠ 0
theorem flP_ne {f : Nat → Int} (h : FlP f) : ∀ k, k < 4 → f k ≠ 0 → ∀ j, j ≤ k → f j ≠ 0
  | 0, _, h0, j, hj => by rw [Nat.le_zero.1 hj]; exact h0
  | k + 1, hk, h0, j, hj => by
    rcases Nat.lt_or_ge j (k + 1) with hl | hg
    · exact flP_ne h k (by omega) (by have := h (k + 1) (by omega) hk h0; simpa using this) j (by omega)
    · rw [show j = k + 1 by omega]; exact h0
instance (f : Nat → Int) : Decidable (FlP f) := by
  refine decidable_of_iff (∀ k, k < 4 → 1 ≤ k → f k ≠ 0 → f (k - 1) ≠ 0) ⟨fun h k h1 h2 => h k h2 h1, fun h k h1 h2 => h k h2 h1⟩
def flR (f : Nat → Int) : Bool := decide (VdRow f ∧ FlP f)
theorem flR_yes {f : Nat → Int} (h : VdRow f) : flR f = decide (FlP f) := by simp [flR, h]
theorem flR_no {f : Nat → Int} (h : ¬ VdRow f) : flR f = false := by simp [flR, h]
/-- The tiles of a row side by side, and how many there are. -/
def fl (f : Nat → Int) : Nat → (Nat → Int) × Nat
  | 0 => (fun _ => 0, 0)
  | k + 1 => if f k = 0 then fl f k else (upd (fl f k).1 (fl f k).2 (f k), (fl f k).2 + 1)
theorem fl_zero {f : Nat → Int} {k : Nat} (h : f k = 0) : fl f (k + 1) = fl f k := by rw [fl, if_pos h]
theorem fl_tile {f : Nat → Int} {k : Nat} (h : f k ≠ 0) : fl f (k + 1) = (upd (fl f k).1 (fl f k).2 (f k), (fl f k).2 + 1) := by rw [fl, if_neg h]
theorem fl_le (f : Nat → Int) : ∀ k, (fl f k).2 ≤ k
  | 0 => Nat.le_refl _
  | k + 1 => by
    have := fl_le f k
    by_cases h : f k = 0
    · rw [fl_zero h]; omega
    · rw [fl_tile h]; show (fl f k).2 + 1 ≤ k + 1; omega
theorem fl_congr {f g : Nat → Int} : ∀ k, (∀ i, i < k → f i = g i) → fl f k = fl g k
  | 0, _ => rfl
  | k + 1, h => by
    rw [fl, fl, fl_congr k (fun i hi => h i (by omega)), h k (by omega)]
theorem fl_qd (a b c d : Int) : (∀ i, i < 4 → (fl (qd a b c d) 4).1 i = qd a b c d i) ↔ FlP (qd a b c d) := by
  by_cases za : a = 0 <;> by_cases zb : b = 0 <;> by_cases zc : c = 0 <;> by_cases zd : d = 0 <;>
  · constructor
    · intro h k h1 hk hn
      have e0 := h 0 (by omega)
      have e1 := h 1 (by omega)
      have e2 := h 2 (by omega)
      have e3 := h 3 (by omega)
      try simp [fl, qd, upd, za, zb, zc, zd, eq_comm] at e0 e1 e2 e3
      all_goals rcases (by omega : k = 1 ∨ k = 2 ∨ k = 3) with rfl | rfl | rfl <;> simp_all [qd]
    · intro h i hi
      have e1 := h 1 (by omega) (by omega)
      have e2 := h 2 (by omega) (by omega)
      have e3 := h 3 (by omega) (by omega)
      first
        | (simp [qd, za, zb, zc, zd] at e1 e2 e3; done)
        | (try simp [qd, za, zb, zc, zd] at e1 e2 e3
           rcases (by omega : i = 0 ∨ i = 1 ∨ i = 2 ∨ i = 3) with rfl | rfl | rfl | rfl <;> simp [fl, qd, upd, za, zb, zc, zd])
theorem flP_congr {f g : Nat → Int} (h : ∀ i, i < 4 → f i = g i) : FlP f → FlP g := fun hf k h1 h2 hn => by
  rw [← h (k - 1) (by omega)]; exact hf k h1 h2 (by rw [h k h2]; exact hn)
theorem fl_same (f : Nat → Int) : sameR (fl f 4).1 f = decide (FlP f) := by
  have e := qd_line f
  have h := fl_qd (f 0) (f 1) (f 2) (f 3)
  rw [← fl_congr 4 e] at h
  by_cases hp : FlP f
  · rw [decide_eq_true hp, sameR_iff]
    intro c hc
    rw [h.2 (flP_congr e hp) c hc, e c hc]
  · rw [decide_eq_false hp]
    refine Bool.eq_false_iff.2 fun hs => hp ?_
    rw [sameR_iff] at hs
    exact flP_congr (fun i hi => (e i hi).symm) (h.1 fun i hi => by rw [hs i hi, e i hi])

/-- A slide leaves a flush row. -/
theorem slid_flush {f : Nat → Int} (h : VdRow f) : FlP (slid f 4).row := fun k h1 hk hn => by
  have ho := slid_ok h 4 (Nat.le_refl _)
  have : k < (slid f 4).n := by
    rcases Nat.lt_or_ge k (slid f 4).n with a | a
    · exact a
    · exact absurd (ho.rest k a) hn
  exact ho.full (k - 1) (by omega)
theorem mg_mono {f : Nat → Int} : ∀ k, (slid f k).mg ≤ (slid f (k + 1)).mg := by
  intro k
  show _ ≤ (slidStep (slid f k) (f k)).mg
  unfold slidStep
  split
  · exact Int.le_refl _
  · split
    · show _ ≤ (slid f k).mg + 1; omega
    · exact Int.le_refl _
/-- A flush row that nothing merges of does not change. -/
theorem still {f : Nat → Int} (hv : VdRow f) (hf : FlP f) (h : (slid f 4).mg = 0) : ∀ i, i < 4 → (slid f 4).row i = f i := by
  have key : ∀ k, k ≤ 4 → (slid f k).mg = 0 → ((∀ j, j < k → f j ≠ 0) → (slid f k).n = k) ∧ ∀ j, (slid f k).row j = if j < k then f j else 0 := by
    intro k
    induction k with
    | zero => intro _ _; exact ⟨fun _ => rfl, fun j => by simp [slid, slid0]⟩
    | succ k ih =>
      intro hk hm
      have hmk : (slid f k).mg = 0 := by
        have := mg_mono (f := f) k
        have := (slid_ok hv k (by omega)).mg0
        omega
      obtain ⟨i1, i2⟩ := ih (by omega) hmk
      have hs : slid f (k + 1) = slidStep (slid f k) (f k) := rfl
      unfold slidStep at hs
      by_cases h0 : f k = 0
      · rw [if_pos h0] at hs
        rw [hs]
        refine ⟨fun hj => absurd h0 (hj k (by omega)), fun j => ?_⟩
        rw [i2]
        by_cases e : j = k
        · subst e; simp [h0]
        · by_cases hl : j < k
          · rw [if_pos hl, if_pos (by omega)]
          · rw [if_neg hl, if_neg (by omega)]
      · rw [if_neg h0] at hs
        have hall : ∀ j, j < k → f j ≠ 0 := fun j hj => flP_ne hf k (by omega) h0 j (by omega)
        have hn := i1 hall
        by_cases hc : f k = (slid f k).op ∧ f k < 17
        · rw [if_pos hc] at hs
          rw [hs] at hm
          simp only [] at hm
          omega
        · rw [if_neg hc] at hs
          rw [hs]
          refine ⟨fun _ => by show (slid f k).n + 1 = k + 1; omega, fun j => ?_⟩
          show upd (slid f k).row (slid f k).n (f k) j = _
          rw [hn]
          unfold upd
          by_cases e : j = k
          · subst e; simp
          · rw [if_neg e, i2]
            by_cases hl : j < k
            · rw [if_pos hl, if_pos (by omega)]
            · rw [if_neg hl, if_neg (by omega)]
  intro i hi
  rw [(key 4 (Nat.le_refl _) h).2 i, if_pos hi]

/-- How far a row is from being settled. -/
def ms (f : Nat → Int) : Nat := (4 - empN f 4) + (if FlP f then 0 else 1)
theorem ms_le (f : Nat → Int) : ms f ≤ 4 := by
  unfold ms
  by_cases h : FlP f
  · rw [if_pos h]; omega
  · rw [if_neg h]
    have : empN f 4 ≠ 0 := fun e => h fun k _ hk _ => empN_nil 4 e (k - 1) (by omega)
    omega
theorem ms_slid {f : Nat → Int} (hv : VdRow f) (h : sameR (slid f 4).row f = false) : ms (slid f 4).row < ms f := by
  have h1 := line_zero hv
  have h2 := (slid_ok hv 4 (Nat.le_refl _)).mg0
  have h3 := slid_zero (f := f) 4
  have hfl := slid_flush hv
  unfold ms
  rw [if_pos hfl]
  by_cases hf : FlP f
  · rw [if_pos hf]
    have hm : (slid f 4).mg ≠ 0 := fun e => by
      have := still hv hf e
      rw [sameR_iff.2 this] at h
      cases h
    omega
  · rw [if_neg hf]
    omega
/-- A row that slides again and again, and how often it changes. -/
def st : Nat → (Nat → Int) → (Nat → Int) × Nat
  | 0, f => (f, 0)
  | g + 1, f => if sameR (slid f 4).row f = true then (f, 0) else ((st g (slid f 4).row).1, (st g (slid f 4).row).2 + 1)
theorem st_done {g : Nat} {f : Nat → Int} (h : sameR (slid f 4).row f = true) : st (g + 1) f = (f, 0) := by rw [st, if_pos h]
theorem st_more {g : Nat} {f : Nat → Int} (h : sameR (slid f 4).row f = false) : st (g + 1) f = ((st g (slid f 4).row).1, (st g (slid f 4).row).2 + 1) := by rw [st, if_neg (by rw [h]; simp)]
theorem st_le : ∀ g (f : Nat → Int), VdRow f → (st g f).2 ≤ ms f
  | 0, _, _ => Nat.zero_le _
  | g + 1, f, hv => by
    by_cases h : sameR (slid f 4).row f = true
    · rw [st_done h]; exact Nat.zero_le _
    · have h : sameR (slid f 4).row f = false := by simpa using h
      rw [st_more h]
      have := st_le g (slid f 4).row (slid_vd hv)
      have := ms_slid hv h
      show (st g (slid f 4).row).2 + 1 ≤ ms f
      omega
theorem st_vd : ∀ g (f : Nat → Int), VdRow f → VdRow (st g f).1
  | 0, _, h => h
  | g + 1, f, hv => by
    by_cases h : sameR (slid f 4).row f = true
    · rw [st_done h]; exact hv
    · have h : sameR (slid f 4).row f = false := by simpa using h
      rw [st_more h]
      exact st_vd g _ (slid_vd hv)
theorem st_still : ∀ g (f : Nat → Int), VdRow f → ms f < g → sameR (slid (st g f).1 4).row (st g f).1 = true
  | 0, _, _, h => by omega
  | g + 1, f, hv, hm => by
    by_cases h : sameR (slid f 4).row f = true
    · rw [st_done h]; exact h
    · have h : sameR (slid f 4).row f = false := by simpa using h
      rw [st_more h]
      have := ms_slid hv h
      exact st_still g _ (slid_vd hv) (by omega)
def stR (f : Nat → Int) : Nat → Int := if VdRow f then (st 5 f).1 else fun _ => 0
def stT (f : Nat → Int) : Int := if VdRow f then ((st 5 f).2 : Int) else 0
theorem st_yes {f : Nat → Int} (h : VdRow f) : stR f = (st 5 f).1 ∧ stT f = ((st 5 f).2 : Int) := by simp [stR, stT, h]
theorem st_no {f : Nat → Int} (h : ¬ VdRow f) : stR f = (fun _ => 0) ∧ stT f = 0 := by simp [stR, stT, h]

/-- A row from its end. -/
def rev (f : Nat → Int) : Nat → Int := fun i => f (3 - i)
theorem rev_vd {f : Nat → Int} (h : VdRow f) : VdRow (rev f) := fun i hi => h _ (by omega)
theorem vd_rev {f : Nat → Int} : VdRow (rev f) ↔ VdRow f := ⟨fun h i hi => by have := h (3 - i) (by omega); unfold rev at this; rwa [show 3 - (3 - i) = i by omega] at this, rev_vd⟩
theorem rev_rev (f : Nat → Int) : ∀ i, i < 4 → rev (rev f) i = f i := fun i hi => by show f (3 - (3 - i)) = f i; rw [show 3 - (3 - i) = i by omega]
def tuR (f : Nat → Int) : Nat → Int := if VdRow f then rev f else fun _ => 0
theorem tu_yes {f : Nat → Int} (h : VdRow f) : tuR f = rev f := by simp [tuR, h]
theorem tu_no {f : Nat → Int} (h : ¬ VdRow f) : tuR f = fun _ => 0 := by simp [tuR, h]
theorem mg_rev (f : Nat → Int) : (slid (rev f) 4).mg = (slid f 4).mg := by
  rw [slid_qd (rev f), slid_qd f]
  exact mg_turn _ _ _ _
theorem emp_rev (f : Nat → Int) : empN (rev f) 4 = empN f 4 := by
  have e : ∀ g : Nat → Int, empN g 4 = (if g 0 = 0 then 1 else 0) + (if g 1 = 0 then 1 else 0) + (if g 2 = 0 then 1 else 0) + (if g 3 = 0 then 1 else 0) := fun g => by
    rw [empN_step, empN_step, empN_step, empN_step]; simp [empN]
  rw [e, e]
  show (if f 3 = 0 then 1 else 0) + (if f 2 = 0 then 1 else 0) + (if f 1 = 0 then 1 else 0) + (if f 0 = 0 then 1 else 0) = _
  omega
theorem n_rev {f : Nat → Int} : (slid (rev f) 4).n = (slid f 4).n := by
  have h1 := slid_zero (f := f) 4
  have h2 := slid_zero (f := rev f) 4
  rw [mg_rev, emp_rev] at h2
  omega
/-- How many of the first numbers are tiles. -/
def many (f : Nat → Int) : Nat → Int
  | 0 => 0
  | k + 1 => if 0 < f k then many f k + 1 else many f k
theorem many_bd (f : Nat → Int) : ∀ k, 0 ≤ many f k ∧ many f k ≤ k
  | 0 => by simp [many]
  | k + 1 => by
    have := many_bd f k
    unfold many
    split <;> omega
theorem many_emp {f : Nat → Int} (h : ∀ i, i < 4 → 0 ≤ f i) : ∀ k, k ≤ 4 → many f k + empN f k = k
  | 0, _ => rfl
  | k + 1, hk => by
    have := many_emp h k (by omega)
    have := h k (by omega)
    rw [empN_step]
    unfold many
    split <;> split <;> omega
theorem many_slid {f : Nat → Int} (h : VdRow f) : many (slid f 4).row 4 = ((slid f 4).n : Int) := by
  have h1 := many_emp (f := (slid f 4).row) (fun i hi => (slid_vd h i hi).1) 4 (Nat.le_refl _)
  have h2 := line_zero h
  have h3 := slid_zero (f := f) 4
  omega
theorem many_less {f : Nat → Int} (h : VdRow f) : many f 4 - many (slid f 4).row 4 = (slid f 4).mg := by
  have h1 := many_emp (f := f) (fun i hi => (h i hi).1) 4 (Nat.le_refl _)
  have h3 := slid_zero (f := f) 4
  rw [many_slid h]
  omega

/-- A slide to the first place and one to the last place leave the same tiles. -/
def SyP (f : Nat → Int) : Prop := ∀ k, k < (slid f 4).n → (slid f 4).row k = (slid (rev f) 4).row ((slid f 4).n - 1 - k)
instance (f : Nat → Int) : Decidable (SyP f) := by unfold SyP; infer_instance
def syR (f : Nat → Int) : Bool := decide (VdRow f ∧ SyP f)
theorem syR_yes {f : Nat → Int} (h : VdRow f) : syR f = decide (SyP f) := by simp [syR, h]
theorem syR_no {f : Nat → Int} (h : ¬ VdRow f) : syR f = false := by simp [syR, h]
theorem fl_rev {s : Slid} {m : Nat} (h : SlidOk s m) (hn : s.n ≤ 4) : ∀ k, k < 4 → (fl (rev s.row) 4).1 k = if k < s.n then s.row (s.n - 1 - k) else 0 := by
  have hf := h.full
  have hr := h.rest
  rcases (by omega : s.n = 0 ∨ s.n = 1 ∨ s.n = 2 ∨ s.n = 3 ∨ s.n = 4) with e | e | e | e | e <;> rw [e] at hf hr ⊢
  · have r0 := hr 0 (by omega); have r1 := hr 1 (by omega); have r2 := hr 2 (by omega); have r3 := hr 3 (by omega)
    intro k hk
    simp [fl, rev, r0, r1, r2, r3]
  · have r0 := hf 0 (by omega); have r1 := hr 1 (by omega); have r2 := hr 2 (by omega); have r3 := hr 3 (by omega)
    intro k hk
    rcases (by omega : k = 0 ∨ k = 1 ∨ k = 2 ∨ k = 3) with rfl | rfl | rfl | rfl <;> simp [fl, rev, r0, r1, r2, r3, upd]
  · have r0 := hf 0 (by omega); have r1 := hf 1 (by omega); have r2 := hr 2 (by omega); have r3 := hr 3 (by omega)
    intro k hk
    rcases (by omega : k = 0 ∨ k = 1 ∨ k = 2 ∨ k = 3) with rfl | rfl | rfl | rfl <;> simp [fl, rev, r0, r1, r2, r3, upd]
  · have r0 := hf 0 (by omega); have r1 := hf 1 (by omega); have r2 := hf 2 (by omega); have r3 := hr 3 (by omega)
    intro k hk
    rcases (by omega : k = 0 ∨ k = 1 ∨ k = 2 ∨ k = 3) with rfl | rfl | rfl | rfl <;> simp [fl, rev, r0, r1, r2, r3, upd]
  · have r0 := hf 0 (by omega); have r1 := hf 1 (by omega); have r2 := hf 2 (by omega); have r3 := hf 3 (by omega)
    intro k hk
    rcases (by omega : k = 0 ∨ k = 1 ∨ k = 2 ∨ k = 3) with rfl | rfl | rfl | rfl <;> simp [fl, rev, r0, r1, r2, r3, upd]
theorem sy_same {f : Nat → Int} (h : VdRow f) : sameR (slid f 4).row (fl (rev (slid (rev f) 4).row) 4).1 = decide (SyP f) := by
  have ho := slid_ok h 4 (Nat.le_refl _)
  have hp := slid_ok (rev_vd h) 4 (Nat.le_refl _)
  have hn : (slid (rev f) 4).n = (slid f 4).n := n_rev
  have key := fl_rev hp hp.n_le
  rw [hn] at key
  by_cases hs : SyP f
  · rw [decide_eq_true hs, sameR_iff]
    intro k hk
    rw [key k hk]
    split
    · exact hs k (by assumption)
    · exact ho.rest k (by omega)
  · rw [decide_eq_false hs]
    refine Bool.eq_false_iff.2 fun e => hs fun k hk => ?_
    rw [sameR_iff] at e
    have := e k (by have := ho.n_le; omega)
    rwa [key k (by have := ho.n_le; omega), if_pos hk] at this
theorem sy_rev {f : Nat → Int} : SyP (rev f) ↔ SyP f := by
  have e1 : slid (rev (rev f)) 4 = slid f 4 := slid_congr 4 (rev_rev f)
  have hn : (slid (rev f) 4).n = (slid f 4).n := n_rev
  unfold SyP
  rw [hn, e1]
  constructor
  · intro h k hk
    have := h ((slid f 4).n - 1 - k) (by omega)
    rw [show (slid f 4).n - 1 - ((slid f 4).n - 1 - k) = k by omega] at this
    exact this.symm
  · intro h k hk
    have := h ((slid f 4).n - 1 - k) (by omega)
    rw [show (slid f 4).n - 1 - ((slid f 4).n - 1 - k) = k by omega] at this
    exact this.symm
theorem syR_rev (f : Nat → Int) : syR (rev f) = syR f := by
  unfold syR
  by_cases h : VdRow f ∧ SyP f
  · rw [decide_eq_true h, decide_eq_true ⟨vd_rev.2 h.1, sy_rev.2 h.2⟩]
  · rw [decide_eq_false h, decide_eq_false (fun e => h ⟨vd_rev.1 e.1, sy_rev.1 e.2⟩)]

/-- The greatest sum of scores. -/
def mo : Nat → (Nat → Int) → Int
  | 0, _ => 0
  | g + 1, f => if (slid f 4).mg = 0 then 0 else max ((slid f 4).sc + mo g (slid f 4).row) ((slid (rev f) 4).sc + mo g (slid (rev f) 4).row)
theorem mo_none {g : Nat} {f : Nat → Int} (h : (slid f 4).mg = 0) : mo g f = 0 := by
  cases g
  · rfl
  · rw [mo, if_pos h]
theorem mo_some {g : Nat} {f : Nat → Int} (h : (slid f 4).mg ≠ 0) : mo (g + 1) f = max ((slid f 4).sc + mo g (slid f 4).row) ((slid (rev f) 4).sc + mo g (slid (rev f) 4).row) := by rw [mo, if_neg h]
theorem mo_congr : ∀ g {f f' : Nat → Int}, (∀ i, i < 4 → f i = f' i) → mo g f = mo g f'
  | 0, _, _, _ => rfl
  | g + 1, f, f', h => by
    have e1 : slid f 4 = slid f' 4 := slid_congr 4 h
    have e2 : slid (rev f) 4 = slid (rev f') 4 := slid_congr 4 fun i hi => h _ (by omega)
    rw [mo, mo, e1, e2]
theorem mo_rev (g : Nat) (f : Nat → Int) : mo g (rev f) = mo g f := by
  cases g
  · rfl
  · rw [mo, mo, mg_rev, slid_congr 4 (rev_rev f)]
    split
    · rfl
    · exact Int.max_comm _ _
theorem mo_bd : ∀ g (f : Nat → Int), VdRow f → 0 ≤ mo g f ∧ mo g f ≤ g * 1048576
  | 0, _, _ => by simp [mo]
  | g + 1, f, hv => by
    have a := mo_bd g (slid f 4).row (slid_vd hv)
    have b := mo_bd g (slid (rev f) 4).row (slid_vd (rev_vd hv))
    have c := slid_ok hv 4 (Nat.le_refl _)
    have d := slid_ok (rev_vd hv) 4 (Nat.le_refl _)
    have c0 := c.sc0; have c1 := c.sc1; have d0 := d.sc0; have d1 := d.sc1
    unfold mo
    split
    · omega
    · omega
/-- The number of tiles bounds the mergers that can follow. -/
def tl (f : Nat → Int) : Nat := 4 - empN f 4
theorem tl_slid {f : Nat → Int} (hv : VdRow f) (h : (slid f 4).mg ≠ 0) : tl (slid f 4).row < tl f := by
  have h1 := line_zero hv
  have h2 := (slid_ok hv 4 (Nat.le_refl _)).mg0
  have h3 := slid_zero (f := f) 4
  unfold tl
  omega
theorem tl_rev (f : Nat → Int) : tl (rev f) = tl f := by unfold tl; rw [emp_rev]
theorem mo_more : ∀ g (f : Nat → Int), VdRow f → tl f < g → mo (g + 1) f = mo g f
  | 0, _, _, h => by omega
  | g + 1, f, hv, h => by
    by_cases hm : (slid f 4).mg = 0
    · rw [mo_none hm, mo_none hm]
    · rw [mo_some hm, mo_some hm]
      have h1 := tl_slid hv hm
      have h2 := tl_slid (rev_vd hv) (by rw [mg_rev]; exact hm)
      rw [tl_rev] at h2
      rw [mo_more g _ (slid_vd hv) (by omega), mo_more g _ (slid_vd (rev_vd hv)) (by omega)]
def moR (f : Nat → Int) : Int := if VdRow f then mo 5 f else 0
theorem mo_yes {f : Nat → Int} (h : VdRow f) : moR f = mo 5 f := by simp [moR, h]
theorem mo_no {f : Nat → Int} (h : ¬ VdRow f) : moR f = 0 := by simp [moR, h]
/-- One slide, and what can follow. -/
theorem mo_first {f : Nat → Int} (hv : VdRow f) : (slid f 4).sc + mo 5 (slid f 4).row ≤ mo 5 f := by
  by_cases hm : (slid f 4).mg = 0
  · have hs : (slid f 4).sc = 0 := by
      have := sc_mg hv 4 (Nat.le_refl _)
      have := (slid_ok hv 4 (Nat.le_refl _)).sc0
      omega
    have hs2 : (slid (slid f 4).row 4).mg = 0 := by
      have h1 := (line_again hm).1
      have h2 := sc_mg (slid_vd hv) 4 (Nat.le_refl _)
      have h3 := (slid_ok (slid_vd hv) 4 (Nat.le_refl _)).mg0
      omega
    rw [mo_none hm, mo_none hs2, hs]
    omega
  · have h1 := tl_slid hv hm
    have h2 : tl f ≤ 4 := by unfold tl; omega
    rw [mo_some hm, mo_more 4 _ (slid_vd hv) (by omega)]
    exact Int.le_max_left _ _

/-- The number of a row. -/
def num (f : Nat → Int) : Nat → Int
  | 0 => 0
  | k + 1 => num f k * 18 + f k
theorem num_bd {f : Nat → Int} (h : VdRow f) : ∀ k, k ≤ 4 → 0 ≤ num f k ∧ num f k < 18 ^ k
  | 0, _ => by simp [num]
  | k + 1, hk => by
    have := num_bd h k (by omega)
    have := h k (by omega)
    unfold num
    rw [Int.pow_succ]
    omega
theorem num_le {f : Nat → Int} (h : VdRow f) {k : Nat} (hk : k ≤ 4) : 0 ≤ num f k ∧ num f k ≤ 104975 := by
  have := num_bd h k hk
  rcases (by omega : k = 0 ∨ k = 1 ∨ k = 2 ∨ k = 3 ∨ k = 4) with rfl | rfl | rfl | rfl | rfl <;> omega
def nuR (f : Nat → Int) : Int := if VdRow f then num f 4 else 0
theorem nu_yes {f : Nat → Int} (h : VdRow f) : nuR f = num f 4 := by simp [nuR, h]
theorem nu_no {f : Nat → Int} (h : ¬ VdRow f) : nuR f = 0 := by simp [nuR, h]
/-- The digits of a number from place j on. -/
def dig (n b : Nat) (j : Nat) : Nat → Int := fun i => if j ≤ i then ((n / b ^ (3 - i) % b : Nat) : Int) else 0
def AtOk (n : Int) : Prop := 0 ≤ n ∧ n ≤ 104975
instance (n : Int) : Decidable (AtOk n) := by unfold AtOk; infer_instance
def atO (n : Int) : Bool := decide (AtOk n)
def atR (n : Int) : Nat → Int := if AtOk n then dig n.toNat 18 0 else fun _ => 0
theorem at_yes {n : Int} (h : AtOk n) : atO n = true ∧ atR n = dig n.toNat 18 0 := by simp [atO, atR, h]
theorem at_no {n : Int} (h : ¬ AtOk n) : atO n = false ∧ atR n = fun _ => 0 := by simp [atO, atR, h]
theorem dig_step (n b : Nat) {j : Nat} (hj : j < 4) : ∀ i, i < 4 → upd (dig n b (j + 1)) j ((n / b ^ (3 - j) % b : Nat) : Int) i = dig n b j i := by
  intro i hi
  unfold upd dig
  by_cases e : i = j
  · subst e; simp
  · rw [if_neg e]
    by_cases hl : j + 1 ≤ i
    · rw [if_pos hl, if_pos (by omega)]
    · rw [if_neg hl, if_neg (by omega)]
end Go.Proofs.Ytfjpdopljmilpaa.Plain
namespace Go.Proofs.Ytfjpdopljmilpaa.Plain
theorem cl_succ (m : Nat) (f : Nat → Int) : cl (m + 1) f = cl m f ++ [f m] := by simp [cl, List.range_succ]
/-- The tiles of the first k places. -/
def cmpr (f : Nat → Int) : Nat → List Int
  | 0 => []
  | k + 1 => if f k = 0 then cmpr f k else cmpr f k ++ [f k]
theorem cmpr_congr {f g : Nat → Int} : ∀ k, (∀ i, i < k → f i = g i) → cmpr f k = cmpr g k
  | 0, _ => rfl
  | k + 1, h => by unfold cmpr; rw [h k (by omega), cmpr_congr k fun i hi => h i (by omega)]
theorem cmpr_mem {f : Nat → Int} : ∀ k x, x ∈ cmpr f k → ∃ i, i < k ∧ f i = x ∧ x ≠ 0
  | 0, x, h => by cases h
  | k + 1, x, h => by
    unfold cmpr at h
    split at h
    · obtain ⟨i, hi, e⟩ := cmpr_mem k x h; exact ⟨i, by omega, e⟩
    · rename_i hk
      rcases List.mem_append.1 h with h | h
      · obtain ⟨i, hi, e⟩ := cmpr_mem k x h; exact ⟨i, by omega, e⟩
      · obtain rfl : x = f k := by simpa using h
        exact ⟨k, by omega, rfl, hk⟩
theorem cmpr_le (f : Nat → Int) : ∀ k, (cmpr f k).length ≤ k
  | 0 => Nat.le_refl _
  | k + 1 => by have := cmpr_le f k; unfold cmpr; split <;> simp <;> omega
theorem cmpr_pos {f : Nat → Int} : ∀ k, (∀ j, j < k → f j ≠ 0) → cmpr f k = cl k f
  | 0, _ => rfl
  | k + 1, h => by unfold cmpr; rw [if_neg (h k (by omega)), cmpr_pos k fun j hj => h j (by omega), cl_succ]
theorem cmpr_stop {f : Nat → Int} {m : Nat} (h : ∀ j, m ≤ j → j < 4 → f j = 0) : ∀ k, m ≤ k → k ≤ 4 → cmpr f k = cmpr f m
  | k, hm, hk => by
    rcases (by omega : k = m ∨ m < k) with rfl | l
    · rfl
    · obtain ⟨j, rfl⟩ : ∃ j, k = j + 1 := ⟨k - 1, by omega⟩
      rw [cmpr, if_pos (h j (by omega) (by omega))]
      exact cmpr_stop h j (by omega) (by omega)

/-- What comes out, and what it came of. -/
inductive Ex : List Int → List Int → Prop
  | nil : Ex [] []
  | one {o i : List Int} (t : Int) : Ex o i → Ex (o ++ [t]) (i ++ [t])
  | two {o i : List Int} (t : Int) : Ex o i → Ex (o ++ [t + 1]) (i ++ [t, t])
theorem ex_snoc {o i : List Int} {t : Int} (h : Ex (o ++ [t]) i) : (∃ j, i = j ++ [t] ∧ Ex o j) ∨ ∃ j, i = j ++ [t - 1, t - 1] ∧ Ex o j := by
  generalize hp : o ++ [t] = p at h
  cases h with
  | nil => simp at hp
  | one u h =>
    obtain ⟨e1, e2⟩ := List.append_inj' hp rfl
    simp at e2; subst e1 e2
    exact Or.inl ⟨_, rfl, h⟩
  | two u h =>
    obtain ⟨e1, e2⟩ := List.append_inj' hp rfl
    simp at e2; subst e1 e2
    exact Or.inr ⟨_, by rw [Int.add_sub_cancel], h⟩
theorem ex_nil {i : List Int} (h : Ex [] i) : i = [] := by
  generalize hp : ([] : List Int) = p at h
  cases h with
  | nil => rfl
  | one u h => simp at hp
  | two u h => simp at hp
theorem slid_ex {f : Nat → Int} (hf : VdRow f) : ∀ k, k ≤ 4 → Ex (cl (slid f k).n (slid f k).row) (cmpr f k) ∧
    ((slid f k).op ≠ 0 → ∃ o i, cl (slid f k).n (slid f k).row = o ++ [(slid f k).op] ∧ cmpr f k = i ++ [(slid f k).op] ∧ Ex o i)
  | 0, _ => ⟨Ex.nil, fun h => absurd rfl h⟩
  | k + 1, hk => by
    obtain ⟨h1, h2⟩ := slid_ex hf k (by omega)
    have hs : slid f (k + 1) = slidStep (slid f k) (f k) := rfl
    unfold slidStep at hs
    by_cases h0 : f k = 0
    · rw [if_pos h0] at hs
      rw [hs, cmpr, if_pos h0]
      exact ⟨h1, h2⟩
    · rw [if_neg h0] at hs
      rw [cmpr, if_neg h0]
      by_cases hc : f k = (slid f k).op ∧ f k < 17
      · rw [if_pos hc] at hs
        obtain ⟨o, i, e1, e2, e3⟩ := h2 (by rw [← hc.1]; exact h0)
        have hn : 1 ≤ (slid f k).n := ((slid_ok hf k (by omega)).last (by rw [← hc.1]; exact h0)).1
        obtain ⟨m, hm⟩ : ∃ m, (slid f k).n = m + 1 := ⟨(slid f k).n - 1, by omega⟩
        rw [hm, cl_succ] at e1
        have e4 := (List.append_inj' e1 rfl).1
        rw [hs]
        refine ⟨?_, fun h => absurd rfl h⟩
        simp only [hm, Nat.add_sub_cancel]
        rw [cl_succ, upd_same, show cl m (upd (slid f k).row m (f k + 1)) = cl m (slid f k).row from cl_inj.2 fun j hj => upd_other _ _ (by omega), e4, e2, ← hc.1]
        have := Ex.two (f k) e3
        rw [show i ++ [f k, f k] = i ++ [f k] ++ [f k] by simp] at this
        exact this
      · rw [if_neg hc] at hs
        rw [hs]
        have e : cl ((slid f k).n + 1) (upd (slid f k).row (slid f k).n (f k)) = cl (slid f k).n (slid f k).row ++ [f k] := by
          rw [cl_succ, upd_same, show cl (slid f k).n (upd (slid f k).row (slid f k).n (f k)) = cl (slid f k).n (slid f k).row from cl_inj.2 fun j hj => upd_other _ _ (by omega)]
        simp only [e]
        exact ⟨Ex.one (f k) h1, fun _ => ⟨_, _, rfl, rfl, h1⟩⟩
/-- x is a row that slides to r. -/
def Bef (r : Nat → Int) (x : List Int) : Prop := x.length = 4 ∧ VdRow (fn x) ∧ ∀ i, i < 4 → (slid (fn x) 4).row i = r i
theorem bef_ex {r : Nat → Int} {x : List Int} (h : Bef r x) : Ex (cmpr r 4) (cmpr (fn x) 4) ∧ FlP r := by
  obtain ⟨h1, h2, h3⟩ := h
  have ho := slid_ok h2 4 (Nat.le_refl _)
  have h4 := (slid_ex h2 4 (Nat.le_refl _)).1
  have e : cl (slid (fn x) 4).n (slid (fn x) 4).row = cmpr r 4 := by
    rw [← cmpr_congr 4 h3, cmpr_stop (m := (slid (fn x) 4).n) (fun j hj _ => ho.rest j hj) 4 ho.n_le (Nat.le_refl _), cmpr_pos _ fun j hj => ho.full j hj]
  rw [e] at h4
  exact ⟨h4, flP_congr h3 (slid_flush h2)⟩

/-! What the program makes of a row: lists of tiles, each kept or made of two less ones. -/
def two1 (l : List Int) (t : Int) : List (List Int) := if 2 ≤ t then [l ++ [t], l ++ [t - 1, t - 1]] else [l ++ [t]]
def cfL (r : Nat → Int) : Nat → List (List Int)
  | 0 => [[]]
  | k + 1 => if r k = 0 then cfL r k else (cfL r k).flatMap fun l => two1 l (r k)
theorem cf_has {r : Nat → Int} : ∀ k i, Ex (cmpr r k) i → (∀ x, x ∈ i → 1 ≤ x) → i ∈ cfL r k
  | 0, i, h, _ => by rw [ex_nil h]; simp [cfL]
  | k + 1, i, h, hi => by
    unfold cmpr at h
    unfold cfL
    split at h
    · rename_i h0
      rw [if_pos h0]; exact cf_has k i h hi
    · rename_i h0
      rw [if_neg h0, List.mem_flatMap]
      rcases ex_snoc h with ⟨j, rfl, hj⟩ | ⟨j, rfl, hj⟩
      · refine ⟨j, cf_has k j hj fun x hx => hi x (by simp [hx]), ?_⟩
        unfold two1; split <;> simp
      · refine ⟨j, cf_has k j hj fun x hx => hi x (by simp [hx]), ?_⟩
        have := hi (r k - 1) (by simp)
        unfold two1; rw [if_pos (by omega)]; simp
theorem cf_vd {r : Nat → Int} (hr : VdRow r) : ∀ k, k ≤ 4 → ∀ l, l ∈ cfL r k → ∀ x, x ∈ l → 1 ≤ x ∧ x ≤ 17
  | 0, _, l, h, x, hx => by simp [cfL] at h; subst h; cases hx
  | k + 1, hk, l, h, x, hx => by
    unfold cfL at h
    obtain ⟨r0, r1⟩ := hr k (by omega)
    split at h
    · exact cf_vd hr k (by omega) l h x hx
    · obtain ⟨m, hm, hl⟩ := List.mem_flatMap.1 h
      have ih := cf_vd hr k (by omega) m hm
      unfold two1 at hl
      split at hl
      · simp only [List.mem_cons, List.not_mem_nil, or_false] at hl
        rcases hl with rfl | rfl
        · rcases List.mem_append.1 hx with q | q
          · exact ih x q
          · obtain rfl : x = r k := by simpa using q
            omega
        · rcases List.mem_append.1 hx with q | q
          · exact ih x q
          · obtain rfl : x = r k - 1 := by simpa using q
            omega
      · simp only [List.mem_cons, List.not_mem_nil, or_false] at hl
        subst hl
        rcases List.mem_append.1 hx with q | q
        · exact ih x q
        · obtain rfl : x = r k := by simpa using q
          omega
theorem two1_last {l : List Int} {t : Int} {x : List Int} (h : x ∈ two1 l t) : (x = l ++ [t]) ∨ x = l ++ [t - 1, t - 1] := by
  unfold two1 at h
  split at h
  · simpa using h
  · exact Or.inl (by simpa using h)
theorem two1_ne {l m : List Int} {t : Int} : l ++ [t] ≠ m ++ [t - 1, t - 1] := fun e => by
  have e2 : m ++ [t - 1, t - 1] = (m ++ [t - 1]) ++ [t - 1] := by simp
  rw [e2] at e
  have := (List.append_inj' e rfl).2
  simp at this; omega
theorem cf_nodup (r : Nat → Int) : ∀ k, (cfL r k).Nodup
  | 0 => by simp [cfL]
  | k + 1 => by
    unfold cfL
    split
    · exact cf_nodup r k
    · show List.Pairwise _ _
      rw [List.pairwise_flatMap]
      refine ⟨fun l _ => ?_, (cf_nodup r k).imp fun {l m} hne x hx y hy e => ?_⟩
      · unfold two1; split
        · simp only [List.pairwise_cons, List.mem_singleton, List.not_mem_nil, false_imp_iff, implies_true, and_true, List.Pairwise.nil]
          intro a ha; subst ha; exact two1_ne
        · simp
      · subst e
        rcases two1_last hx with h1 | h1 <;> rcases two1_last hy with h2 | h2
        · rw [h1] at h2; exact hne (List.append_inj' h2 rfl).1
        · rw [h1] at h2; exact two1_ne h2
        · rw [h1] at h2; exact two1_ne h2.symm
        · rw [h1] at h2; exact hne (List.append_inj' h2 rfl).1
theorem cf_len (r : Nat → Int) : ∀ k, (cfL r k).length ≤ 2 ^ k ∧ ∀ l, l ∈ cfL r k → l.length ≤ 2 * k
  | 0 => by simp [cfL]
  | k + 1 => by
    obtain ⟨h1, h2⟩ := cf_len r k
    unfold cfL
    split
    · exact ⟨by rw [Nat.pow_succ]; omega, fun l hl => by have := h2 l hl; omega⟩
    · refine ⟨?_, fun l hl => ?_⟩
      · rw [List.length_flatMap]
        have : ∀ L : List (List Int), (L.map fun l => (two1 l (r k)).length).sum ≤ L.length * 2 := by
          intro L
          induction L with
          | nil => simp
          | cons a L ih =>
            have : (two1 a (r k)).length ≤ 2 := by unfold two1; split <;> simp
            simp only [List.map_cons, List.sum_cons, List.length_cons]; omega
        have := this (cfL r k)
        rw [Nat.pow_succ]; omega
      · obtain ⟨m, hm, hl⟩ := List.mem_flatMap.1 hl
        have := h2 m hm
        rcases two1_last hl with rfl | rfl <;> simp <;> omega

/-! The rows that have some tiles, in order. -/
/-- The row of a code's bits, and how many of its first k are set. -/
def spr (ts : List Int) (c : Nat) : Nat → (Nat → Int) × Nat
  | 0 => (fun _ => 0, 0)
  | k + 1 => if c.testBit k = true then (if (spr ts c k).2 < ts.length then upd (spr ts c k).1 k (fn ts (spr ts c k).2) else (spr ts c k).1, (spr ts c k).2 + 1) else spr ts c k
theorem spr_le (ts : List Int) (c : Nat) : ∀ k, (spr ts c k).2 ≤ k
  | 0 => Nat.le_refl _
  | k + 1 => by have := spr_le ts c k; unfold spr; split <;> simp <;> omega
theorem spr_zero (ts : List Int) (c : Nat) : ∀ k j, k ≤ j → (spr ts c k).1 j = 0
  | 0, _, _ => rfl
  | k + 1, j, h => by
    have := spr_zero ts c k j (by omega)
    unfold spr; split
    · simp only; split
      · rw [upd_other _ _ (by omega)]; exact this
      · exact this
    · exact this
theorem spr_in (ts : List Int) (c : Nat) : ∀ k j, (spr ts c k).1 j = 0 ∨ (spr ts c k).1 j ∈ ts
  | 0, _ => Or.inl rfl
  | k + 1, j => by
    have ih := spr_in ts c k j
    unfold spr; split
    · simp only; split
      · rename_i hl
        by_cases e : j = k
        · subst e; rw [upd_same]; right; unfold fn; rw [List.getD_eq_getElem?_getD, List.getElem?_eq_getElem hl]; exact List.getElem_mem hl
        · rw [upd_other _ _ e]; exact ih
      · exact ih
    · exact ih
theorem spr_cmpr {ts : List Int} (h0 : ∀ x, x ∈ ts → x ≠ 0) (c : Nat) : ∀ k, (spr ts c k).2 ≤ ts.length → cmpr (spr ts c k).1 k = ts.take (spr ts c k).2 ∧ ∀ j, j < k → ((spr ts c k).1 j ≠ 0 ↔ c.testBit j = true)
  | 0, _ => ⟨by simp [cmpr, spr], fun j hj => by omega⟩
  | k + 1, h => by
    unfold spr at h ⊢
    by_cases hb : c.testBit k = true
    · rw [if_pos hb] at h ⊢
      simp only at h ⊢
      have hl : (spr ts c k).2 < ts.length := by omega
      rw [if_pos hl]
      obtain ⟨i1, i2⟩ := spr_cmpr h0 c k (by omega)
      have hx : fn ts (spr ts c k).2 = ts[(spr ts c k).2] := by unfold fn; rw [List.getD_eq_getElem?_getD, List.getElem?_eq_getElem hl]; rfl
      have hn : fn ts (spr ts c k).2 ≠ 0 := by rw [hx]; exact h0 _ (List.getElem_mem hl)
      refine ⟨?_, fun j hj => ?_⟩
      · rw [cmpr, upd_same, if_neg hn, cmpr_congr (g := (spr ts c k).1) k (fun i hi => upd_other _ _ (by omega)), i1, List.take_succ_eq_append_getElem hl, hx]
      · by_cases e : j = k
        · subst e; rw [upd_same]; exact ⟨fun _ => hb, fun _ => hn⟩
        · rw [upd_other _ _ e]; exact i2 j (by omega)
    · rw [if_neg hb] at h ⊢
      obtain ⟨i1, i2⟩ := spr_cmpr h0 c k h
      refine ⟨?_, fun j hj => ?_⟩
      · rw [cmpr, if_pos (spr_zero ts c k k (Nat.le_refl _))]; exact i1
      · by_cases e : j = k
        · subst e; exact ⟨fun q => absurd (spr_zero ts c j j (Nat.le_refl _)) q, fun q => absurd q hb⟩
        · exact i2 j (by omega)
/-- Those of the first m codes. -/
def sprL (ts : List Int) : Nat → List (List Int)
  | 0 => []
  | c + 1 => if (spr ts c 4).2 = ts.length then sprL ts c ++ [cl 4 (spr ts c 4).1] else sprL ts c
theorem sprL_mem (ts : List Int) : ∀ m x, x ∈ sprL ts m ↔ ∃ c, c < m ∧ (spr ts c 4).2 = ts.length ∧ x = cl 4 (spr ts c 4).1
  | 0, x => by simp [sprL]
  | m + 1, x => by
    have ih := sprL_mem ts m x
    unfold sprL
    split
    · rename_i h
      rw [List.mem_append, ih]
      constructor
      · rintro (⟨c, hc, e⟩ | e)
        · exact ⟨c, by omega, e⟩
        · exact ⟨m, by omega, h, by simpa using e⟩
      · rintro ⟨c, hc, e1, e2⟩
        rcases (by omega : c < m ∨ c = m) with q | rfl
        · exact Or.inl ⟨c, q, e1, e2⟩
        · exact Or.inr (by simpa using e2)
    · rename_i h
      rw [ih]
      constructor
      · rintro ⟨c, hc, e⟩; exact ⟨c, by omega, e⟩
      · rintro ⟨c, hc, e1, e2⟩
        rcases (by omega : c < m ∨ c = m) with q | rfl
        · exact ⟨c, q, e1, e2⟩
        · exact absurd e1 h
theorem sprL_len (ts : List Int) : ∀ m, (sprL ts m).length ≤ m
  | 0 => Nat.le_refl _
  | m + 1 => by have := sprL_len ts m; unfold sprL; split <;> simp <;> omega
theorem sprL_cmpr {ts : List Int} (h0 : ∀ x, x ∈ ts → x ≠ 0) {m : Nat} {x : List Int} (h : x ∈ sprL ts m) : x.length = 4 ∧ cmpr (fn x) 4 = ts := by
  obtain ⟨c, _, h1, rfl⟩ := (sprL_mem ts m x).1 h
  refine ⟨cl_len _ _, ?_⟩
  rw [cmpr_congr 4 (fn_cl (spr ts c 4).1), (spr_cmpr h0 c 4 (by omega)).1, h1, List.take_length]
theorem bits_inj {c d : Nat} (hc : c < 16) (hd : d < 16) (h : ∀ j, j < 4 → (c.testBit j = true ↔ d.testBit j = true)) : c = d := by
  have key : ∀ c d : Fin 16, (c.val.testBit 0 = d.val.testBit 0 ∧ c.val.testBit 1 = d.val.testBit 1 ∧ c.val.testBit 2 = d.val.testBit 2 ∧ c.val.testBit 3 = d.val.testBit 3) → c.val = d.val := by decide
  exact key ⟨c, hc⟩ ⟨d, hd⟩ ⟨Bool.eq_iff_iff.2 (h 0 (by omega)), Bool.eq_iff_iff.2 (h 1 (by omega)), Bool.eq_iff_iff.2 (h 2 (by omega)), Bool.eq_iff_iff.2 (h 3 (by omega))⟩
theorem code_of : ∀ b0 b1 b2 b3 : Bool, ∃ c, c < 16 ∧ c.testBit 0 = b0 ∧ c.testBit 1 = b1 ∧ c.testBit 2 = b2 ∧ c.testBit 3 = b3 := by decide
theorem sprL_nodup {ts : List Int} (h0 : ∀ x, x ∈ ts → x ≠ 0) : ∀ m, m ≤ 16 → (sprL ts m).Nodup
  | 0, _ => List.nodup_nil
  | m + 1, hm => by
    have ih := sprL_nodup h0 m (by omega)
    unfold sprL
    split
    · rename_i h
      rw [List.nodup_append]
      refine ⟨ih, by simp, fun a ha b hb e => ?_⟩
      obtain rfl : b = _ := by simpa using hb
      obtain ⟨c, hc, e1, e2⟩ := (sprL_mem ts m a).1 ha
      rw [e] at e2
      have e3 := cl_inj.1 e2
      have : m = c := bits_inj (by omega) (by omega) fun j hj => by
        rw [← (spr_cmpr h0 m 4 (by omega)).2 j hj, ← (spr_cmpr h0 c 4 (by omega)).2 j hj, e3 j hj]
      omega
    · exact ih
/-- Each row that has the tiles is there. -/
theorem spr_has (x : List Int) (hx : x.length = 4) : x ∈ sprL (cmpr (fn x) 4) 16 := by
  match x, hx with
  | [a, b, c, d], _ =>
    rw [sprL_mem]
    have e : ∀ g : Nat → Int, g 0 = a → g 1 = b → g 2 = c → g 3 = d → [a, b, c, d] = cl 4 g := fun g h0 h1 h2 h3 => by subst h0 h1 h2 h3; rfl
    obtain ⟨m, hm, h0, h1, h2, h3⟩ := code_of (decide (a ≠ 0)) (decide (b ≠ 0)) (decide (c ≠ 0)) (decide (d ≠ 0))
    refine ⟨m, hm, ?_⟩
    by_cases za : a = 0 <;> by_cases zb : b = 0 <;> by_cases zc : c = 0 <;> by_cases zd : d = 0 <;>
      simp only [za, zb, zc, zd, ne_eq, not_true_eq_false, not_false_eq_true, decide_true, decide_false] at h0 h1 h2 h3 <;>
      refine ⟨by simp [cmpr, fn, spr, h0, h1, h2, h3, za, zb, zc, zd], e _ ?_ ?_ ?_ ?_⟩ <;>
      simp [spr, upd, cmpr, fn, h0, h1, h2, h3, za, zb, zc, zd]
/-- The same rows, once more: those before r, as the program finds them. -/
def befP (r : Nat → Int) : List (List Int) := (cfL r 4).flatMap fun ts => (sprL ts 16).filter fun x => sameR (slid (fn x) 4).row r
theorem befP_mem {r : Nat → Int} (hr : VdRow r) (x : List Int) : x ∈ befP r ↔ Bef r x := by
  unfold befP
  rw [List.mem_flatMap]
  constructor
  · rintro ⟨ts, h1, h2⟩
    obtain ⟨h3, h4⟩ := List.mem_filter.1 h2
    obtain ⟨c, _, _, e⟩ := (sprL_mem ts 16 x).1 h3
    refine ⟨by rw [e, cl_len], fun i hi => ?_, sameR_iff.1 h4⟩
    rw [e, fn_cl _ i hi]
    rcases spr_in ts c 4 i with q | q
    · rw [q]; omega
    · have := cf_vd hr 4 (Nat.le_refl _) ts h1 _ q; omega
  · intro hb
    obtain ⟨h1, _⟩ := bef_ex hb
    refine ⟨cmpr (fn x) 4, cf_has 4 _ h1 fun y hy => ?_, List.mem_filter.2 ⟨spr_has x hb.1, sameR_iff.2 hb.2.2⟩⟩
    obtain ⟨i, hi, e, hn⟩ := cmpr_mem 4 y hy
    have := (hb.2.1 i hi).1
    omega
theorem befP_nodup {r : Nat → Int} (hr : VdRow r) : (befP r).Nodup := by
  unfold befP
  show List.Pairwise _ _
  have hz : ∀ ts, ts ∈ cfL r 4 → ∀ x, x ∈ ts → x ≠ 0 := fun ts h x hx => by have := cf_vd hr 4 (Nat.le_refl _) ts h x hx; omega
  rw [List.pairwise_flatMap]
  refine ⟨fun ts h => (sprL_nodup (hz ts h) 16 (Nat.le_refl _)).filter _, ?_⟩
  have hp : List.Pairwise (fun a b => a ∈ cfL r 4 ∧ b ∈ cfL r 4 ∧ a ≠ b) (cfL r 4) := by
    rw [List.pairwise_iff_getElem]
    intro i j hi hj hij
    exact ⟨List.getElem_mem hi, List.getElem_mem hj, (List.pairwise_iff_getElem.1 (cf_nodup r 4)) i j hi hj hij⟩
  refine hp.imp fun {a b} hab x hx y hy e => ?_
  subst e
  have h1 := (sprL_cmpr (hz a hab.1) (List.mem_filter.1 hx).1).2
  have h2 := (sprL_cmpr (hz b hab.2.1) (List.mem_filter.1 hy).1).2
  exact hab.2.2 (h1.symm.trans h2)

/-! What the reference makes of a row: for each code, the tiles that its bits tell. -/
def tls (r : Nat → Int) (c : Nat) : Nat → List Int
  | 0 => []
  | k + 1 => tls r c k ++ (if c.testBit k = true then [r k - 1, r k - 1] else [r k])
theorem tls_congr (r : Nat → Int) {c d : Nat} : ∀ k, (∀ j, j < k → c.testBit j = d.testBit j) → tls r c k = tls r d k
  | 0, _ => rfl
  | k + 1, h => by unfold tls; rw [h k (by omega), tls_congr r k fun j hj => h j (by omega)]
theorem tls_mem {r : Nat → Int} (hr : VdRow r) (c : Nat) : ∀ k, k ≤ 4 → ∀ x, x ∈ tls r c k → -1 ≤ x ∧ x ≤ 17
  | 0, _, x, h => by cases h
  | k + 1, hk, x, h => by
    unfold tls at h
    obtain ⟨r0, r1⟩ := hr k (by omega)
    rcases List.mem_append.1 h with h | h
    · exact tls_mem hr c k (by omega) x h
    · split at h
      · have : x = r k - 1 := by simpa using h
        omega
      · have : x = r k := by simpa using h
        omega
theorem tls_pos {r : Nat → Int} {c : Nat} : ∀ k, (∀ j, j < k → 0 < r j) → ∀ x, x ∈ tls r c k → 0 ≤ x
  | 0, _, x, h => by cases h
  | k + 1, hk, x, h => by
    unfold tls at h
    have r0 := hk k (by omega)
    rcases List.mem_append.1 h with h | h
    · exact tls_pos k (fun j hj => hk j (by omega)) x h
    · split at h
      · have : x = r k - 1 := by simpa using h
        omega
      · have : x = r k := by simpa using h
        omega
theorem tls_len (r : Nat → Int) (c : Nat) : ∀ k, (tls r c k).length ≤ 2 * k
  | 0 => Nat.le_refl _
  | k + 1 => by have := tls_len r c k; unfold tls; rw [List.length_append]; split <;> simp <;> omega
theorem tls_has {r : Nat → Int} : ∀ k i, Ex (cl k r) i → ∃ c, c < 2 ^ k ∧ i = tls r c k
  | 0, i, h => ⟨0, by simp, ex_nil h⟩
  | k + 1, i, h => by
    rw [cl_succ] at h
    rcases ex_snoc h with ⟨j, rfl, hj⟩ | ⟨j, rfl, hj⟩
    · obtain ⟨c, hc, rfl⟩ := tls_has k j hj
      refine ⟨c, by rw [Nat.pow_succ]; omega, ?_⟩
      have : c.testBit k = false := Nat.testBit_lt_two_pow hc
      rw [tls, this]; simp
    · obtain ⟨c, hc, rfl⟩ := tls_has k j hj
      have hb : (2 ^ k + c).testBit k = true := by rw [Nat.testBit_two_pow_add_eq, Nat.testBit_lt_two_pow hc]; rfl
      refine ⟨2 ^ k + c, by rw [Nat.pow_succ]; omega, ?_⟩
      rw [tls, hb, if_pos rfl, tls_congr r k fun j hj => (Nat.testBit_two_pow_add_gt hj c).symm]
/-- How many of the first tiles of a row there are. -/
def led (r : Nat → Int) : Nat := if r 0 ≤ 0 then 0 else if r 1 ≤ 0 then 1 else if r 2 ≤ 0 then 2 else if r 3 ≤ 0 then 3 else 4
theorem led_le (r : Nat → Int) : led r ≤ 4 := by unfold led; split <;> (try split) <;> (try split) <;> (try split) <;> omega
theorem led_pos (r : Nat → Int) : ∀ j, j < led r → 0 < r j := by
  intro j hj
  unfold led at hj
  split at hj
  · omega
  · split at hj
    · obtain rfl : j = 0 := by omega
      omega
    · split at hj
      · rcases (by omega : j = 0 ∨ j = 1) with rfl | rfl <;> omega
      · split at hj
        · rcases (by omega : j = 0 ∨ j = 1 ∨ j = 2) with rfl | rfl | rfl <;> omega
        · rcases (by omega : j = 0 ∨ j = 1 ∨ j = 2 ∨ j = 3) with rfl | rfl | rfl | rfl <;> omega
theorem led_eq {r : Nat → Int} {k : Nat} (hk : k ≤ 4) (h : ∀ j, j < k → 0 < r j) (he : k = 4 ∨ r k ≤ 0) : led r = k := by
  have h2 := led_pos r
  have h3 := led_le r
  rcases Nat.lt_trichotomy (led r) k with l | l | l
  · exfalso
    have h4 := h _ l
    unfold led at l h4
    split at l
    · rename_i q; rw [if_pos q] at h4; omega
    · rename_i q0
      split at l
      · rename_i q; rw [if_neg q0, if_pos q] at h4; omega
      · rename_i q1
        split at l
        · rename_i q; rw [if_neg q0, if_neg q1, if_pos q] at h4; omega
        · rename_i q2
          split at l
          · rename_i q; rw [if_neg q0, if_neg q1, if_neg q2, if_pos q] at h4; omega
          · omega
  · exact l
  · have := h2 k l
    rcases he with rfl | he <;> omega
/-- Whether a code's tiles are those of a row. -/
def tlsOk (r : Nat → Int) (c : Nat) : Bool := decide ((tls r c (led r)).length ≤ 4 ∧ ¬ (0 : Int) ∈ tls r c (led r))
/-- The rows found among the first j of a list, put in order. -/
noncomputable def insR (r : Nat → Int) (X : List (List Int)) (I : List (List Int)) : Nat → List (List Int)
  | 0 => I
  | j + 1 => match X[j]? with
    | none => insR r X I j
    | some x => if sameR (slid (fn x) 4).row r = true then insL (lt 4) (insR r X I j) x else insR r X I j
noncomputable def befS (r : Nat → Int) : Nat → List (List Int)
  | 0 => []
  | c + 1 => if tlsOk r c = true then insR r (sprL (tls r c (led r)) 16) (befS r c) (sprL (tls r c (led r)) 16).length else befS r c
theorem insR_mem (r : Nat → Int) (X I : List (List Int)) : ∀ j, j ≤ X.length → ∀ x, x ∈ insR r X I j ↔ x ∈ I ∨ (∃ i, i < j ∧ X[i]? = some x ∧ sameR (slid (fn x) 4).row r = true)
  | 0, _, x => by simp [insR]
  | j + 1, hj, x => by
    have ih := insR_mem r X I j (by omega) x
    obtain ⟨y, hy⟩ : ∃ y, X[j]? = some y := ⟨X[j]'(by omega), List.getElem?_eq_getElem _⟩
    unfold insR
    simp only [hy]
    by_cases hs : sameR (slid (fn y) 4).row r = true
    · rw [if_pos hs, ins_mem, ih]
      constructor
      · rintro ((h | ⟨i, hi, e⟩) | rfl)
        · exact Or.inl h
        · exact Or.inr ⟨i, by omega, e⟩
        · exact Or.inr ⟨j, by omega, hy, hs⟩
      · rintro (h | ⟨i, hi, e1, e2⟩)
        · exact Or.inl (Or.inl h)
        · rcases (by omega : i < j ∨ i = j) with q | rfl
          · exact Or.inl (Or.inr ⟨i, q, e1, e2⟩)
          · rw [hy] at e1; cases e1; exact Or.inr rfl
    · rw [if_neg hs, ih]
      constructor
      · rintro (h | ⟨i, hi, e⟩)
        · exact Or.inl h
        · exact Or.inr ⟨i, by omega, e⟩
      · rintro (h | ⟨i, hi, e1, e2⟩)
        · exact Or.inl h
        · rcases (by omega : i < j ∨ i = j) with q | rfl
          · exact Or.inr ⟨i, q, e1, e2⟩
          · rw [hy] at e1; cases e1; exact absurd e2 hs
theorem befS_mem (r : Nat → Int) : ∀ m x, x ∈ befS r m ↔ ∃ c, c < m ∧ tlsOk r c = true ∧ x ∈ sprL (tls r c (led r)) 16 ∧ sameR (slid (fn x) 4).row r = true
  | 0, x => by simp [befS]
  | m + 1, x => by
    have ih := befS_mem r m x
    unfold befS
    by_cases h : tlsOk r m = true
    · rw [if_pos h, insR_mem r _ _ _ (Nat.le_refl _), ih]
      constructor
      · rintro (⟨c, hc, e⟩ | ⟨i, hi, e1, e2⟩)
        · exact ⟨c, by omega, e⟩
        · exact ⟨m, by omega, h, List.mem_of_getElem? e1, e2⟩
      · rintro ⟨c, hc, e1, e2, e3⟩
        rcases (by omega : c < m ∨ c = m) with q | rfl
        · exact Or.inl ⟨c, q, e1, e2, e3⟩
        · obtain ⟨i, hi⟩ := List.getElem?_of_mem e2
          exact Or.inr ⟨i, (List.getElem?_eq_some_iff.1 hi).1, hi, e3⟩
    · rw [if_neg h, ih]
      constructor
      · rintro ⟨c, hc, e⟩; exact ⟨c, by omega, e⟩
      · rintro ⟨c, hc, e1, e2⟩
        rcases (by omega : c < m ∨ c = m) with q | rfl
        · exact ⟨c, q, e1, e2⟩
        · exact absurd e1 h
theorem befS_iff {r : Nat → Int} (hr : VdRow r) (x : List Int) : x ∈ befS r 16 ↔ Bef r x := by
  rw [befS_mem]
  constructor
  · rintro ⟨c, _, h1, h2, h3⟩
    have h1 := of_decide_eq_true h1
    obtain ⟨d, _, _, e⟩ := (sprL_mem _ 16 x).1 h2
    refine ⟨by rw [e, cl_len], fun i hi => ?_, sameR_iff.1 h3⟩
    rw [e, fn_cl _ i hi]
    rcases spr_in (tls r c (led r)) d 4 i with q | q
    · rw [q]; omega
    · have q1 := tls_mem hr c (led r) (led_le r) _ q
      have q2 := tls_pos (led r) (led_pos r) _ q
      omega
  · intro hb
    obtain ⟨h1, h2⟩ := bef_ex hb
    have hl : cmpr r 4 = cl (led r) r := by
      have hz : ∀ j, led r ≤ j → j < 4 → r j = 0 := fun j h3 h4 => by
        by_cases hj : r j = 0
        · exact hj
        · have hp := flP_ne h2 j h4 hj
          have : led r = 4 := led_eq (Nat.le_refl _) (fun i hi => by
            rcases Nat.lt_or_ge i (led r) with q | q
            · exact led_pos r i q
            · have h5 := hp (led r) h3
              have h6 := (hr (led r) (by omega)).1
              exfalso
              have h7 : r (led r) ≤ 0 := by
                unfold led at *
                split
                · assumption
                · split
                  · assumption
                  · split
                    · assumption
                    · split
                      · assumption
                      · exfalso; simp_all; omega
              omega) (Or.inl rfl)
          omega
      rw [cmpr_stop hz 4 (led_le r) (Nat.le_refl _)]
      exact cmpr_pos _ fun j hj => by have := led_pos r j hj; omega
    rw [hl] at h1
    obtain ⟨c, hc, e⟩ := tls_has (led r) _ h1
    have hc16 : c < 16 := Nat.lt_of_lt_of_le hc (by have := Nat.pow_le_pow_right (n := 2) (by omega) (led_le r); omega)
    refine ⟨c, hc16, decide_eq_true ⟨by rw [← e]; exact cmpr_le _ 4, fun h0 => ?_⟩, by rw [← e]; exact spr_has x hb.1, sameR_iff.2 hb.2.2⟩
    rw [← e] at h0
    obtain ⟨i, _, _, hn⟩ := cmpr_mem 4 _ h0
    exact hn rfl
theorem befS_all {r : Nat → Int} : ∀ m x, x ∈ befS r m → x.length = 4 := fun m x hx => by
  obtain ⟨c, _, _, h2, _⟩ := (befS_mem r m x).1 hx
  obtain ⟨d, _, _, e⟩ := (sprL_mem _ 16 x).1 h2
  rw [e, cl_len]
theorem insR_all {r : Nat → Int} {X I : List (List Int)} (hX : ∀ x, x ∈ X → x.length = 4) (hI : ∀ x, x ∈ I → x.length = 4) (j : Nat) (hj : j ≤ X.length) : ∀ x, x ∈ insR r X I j → x.length = 4 := fun x hx => by
  rcases (insR_mem r X I j hj x).1 hx with h | ⟨i, _, h, _⟩
  · exact hI x h
  · exact hX x (List.mem_of_getElem? h)
theorem sprL_all (ts : List Int) (m : Nat) : ∀ x, x ∈ sprL ts m → x.length = 4 := fun x hx => by
  obtain ⟨c, _, _, e⟩ := (sprL_mem ts m x).1 hx; rw [e, cl_len]
theorem insR_ss {r : Nat → Int} {X I : List (List Int)} (hX : ∀ x, x ∈ X → x.length = 4) (hI : ∀ x, x ∈ I → x.length = 4) (hs : SS (lt 4) I) : ∀ j, j ≤ X.length → SS (lt 4) (insR r X I j)
  | 0, _ => hs
  | j + 1, hj => by
    have ih := insR_ss (r := r) hX hI hs j (by omega)
    obtain ⟨y, hy⟩ : ∃ y, X[j]? = some y := ⟨X[j]'(by omega), List.getElem?_eq_getElem _⟩
    unfold insR
    simp only [hy]
    split
    · exact ins_ss (lt 4) (fun x y z h1 h2 => lt_trans h1 h2) _ _ (fun x hx h1 h2 => lt_total (insR_all hX hI j (by omega) x hx) (hX y (List.mem_of_getElem? hy)) h1 h2) ih
    · exact ih
theorem befS_ss (r : Nat → Int) : ∀ m, SS (lt 4) (befS r m)
  | 0 => List.Pairwise.nil
  | m + 1 => by
    unfold befS
    split
    · exact insR_ss (sprL_all _ 16) (befS_all m) (befS_ss r m) _ (Nat.le_refl _)
    · exact befS_ss r m
/-- Lists put in order, none of which is there twice. -/
theorem srt_ss {n : Nat} (L I : List (List Int)) (hl : ∀ x, x ∈ L → x.length = n) (hd : L.Nodup) (hI : SS (lt n) I) (hm : ∀ x, x ∈ L ↔ x ∈ I) : (L.mergeSort fun x y => !lt n y x) = I := by
  have hmem : ∀ x, x ∈ (L.mergeSort fun x y => !lt n y x) ↔ x ∈ L := fun x => List.mem_mergeSort
  refine ss_unique (lt n) (lt_irrefl n) (fun x y z h1 h2 => lt_trans h1 h2) _ _ ?_ hI fun x => (hmem x).trans (hm x)
  have ht : ∀ a b c : {l : List Int // l.length = n}, (!lt n b.1 a.1) = true → (!lt n c.1 b.1) = true → (!lt n c.1 a.1) = true := fun a b c h1 h2 => by
    simp only [Bool.not_eq_true'] at *
    rcases h : lt n c.1 a.1 with _ | _
    · rfl
    · rcases h3 : lt n a.1 b.1 with _ | _
      · have := lt_total a.2 b.2 h3 h1
        rw [this, h2] at h; cases h
      · have := lt_trans h h3; rw [h2] at this; cases this
  have hto : ∀ a b : {l : List Int // l.length = n}, ((!lt n b.1 a.1) || (!lt n a.1 b.1)) = true := fun a b => by
    rcases h : lt n b.1 a.1 with _ | _
    · rfl
    · rw [lt_asym h]; rfl
  have hs := List.pairwise_mergeSort (le := fun a b : {l : List Int // l.length = n} => !lt n b.1 a.1) (fun a b c => ht a b c) hto (L.attach.map fun x => ⟨x.1, hl x.1 x.2⟩)
  have hmap : ((L.attach.map fun x => (⟨x.1, hl x.1 x.2⟩ : {l : List Int // l.length = n})).mergeSort fun a b => !lt n b.1 a.1).map (·.1) = L.mergeSort fun x y => !lt n y x := by
    rw [List.map_mergeSort (s := fun x y => !lt n y x) (fun a _ b _ => rfl), List.map_map]
    congr 1
    exact List.attach_map_subtype_val L
  have hp : (L.mergeSort fun x y => !lt n y x).Pairwise fun x y => (!lt n y x) = true := by rw [← hmap, List.pairwise_map]; exact hs
  have hd2 : (L.mergeSort fun x y => !lt n y x).Nodup := (List.mergeSort_perm _ _).nodup_iff.2 hd
  rw [SS, List.pairwise_iff_getElem]
  intro i j hi hj hij
  have h1 := List.pairwise_iff_getElem.1 hp i j hi hj hij
  have h2 := List.pairwise_iff_getElem.1 hd2 i j hi hj hij
  simp only [Bool.not_eq_true'] at h1
  rcases h3 : lt n (L.mergeSort fun x y => !lt n y x)[i] (L.mergeSort fun x y => !lt n y x)[j] with _ | _
  · exact absurd (lt_total (hl _ ((hmem _).1 (List.getElem_mem hi))) (hl _ ((hmem _).1 (List.getElem_mem hj))) h3 h1) h2
  · rfl
/-- What RowsBefore returns. -/
noncomputable def rbR (r : Nat → Int) : List (List Int) := if VdRow r then befS r 16 else []
theorem rbR_yes {r : Nat → Int} (h : VdRow r) : rbR r = befS r 16 := by simp [rbR, h]
theorem rbR_no {r : Nat → Int} (h : ¬ VdRow r) : rbR r = [] := by simp [rbR, h]
theorem bef_same {r : Nat → Int} (hr : VdRow r) : ((befP r).mergeSort fun x y => !lt 4 y x) = befS r 16 :=
  srt_ss (befP r) (befS r 16) (fun x hx => ((befP_mem hr x).1 hx).1) (befP_nodup hr) (befS_ss r 16) fun x => (befP_mem hr x).trans (befS_iff hr x).symm
theorem befP_le (r : Nat → Int) : (befP r).length ≤ 256 := by
  unfold befP
  rw [List.length_flatMap]
  have : ∀ L : List (List Int), (L.map fun ts => ((sprL ts 16).filter fun x => sameR (slid (fn x) 4).row r).length).sum ≤ L.length * 16 := by
    intro L
    induction L with
    | nil => simp
    | cons a L ih =>
      have h1 := List.length_filter_le (fun x => sameR (slid (fn x) 4).row r) (sprL a 16)
      have h2 := sprL_len a 16
      simp only [List.map_cons, List.sum_cons, List.length_cons]; omega
  have h1 := this (cfL r 4)
  have h2 := (cf_len r 4).1
  omega
theorem befS_le {r : Nat → Int} (hr : VdRow r) : (befS r 16).length ≤ 256 := by
  rw [← bef_same hr, List.length_mergeSort]; exact befP_le r
theorem insR_le (r : Nat → Int) (X I : List (List Int)) : ∀ j, (insR r X I j).length ≤ I.length + j
  | 0 => Nat.le_refl _
  | j + 1 => by
    have := insR_le r X I j
    unfold insR
    split
    · omega
    · split
      · rw [ins_len]; split <;> omega
      · omega
theorem befS_len (r : Nat → Int) : ∀ m, (befS r m).length ≤ m * 16
  | 0 => Nat.le_refl _
  | m + 1 => by
    have h1 := befS_len r m
    unfold befS
    split
    · have h2 := insR_le r (sprL (tls r m (led r)) 16) (befS r m) (sprL (tls r m (led r)) 16).length
      have h3 := sprL_len (tls r m (led r)) 16
      omega
    · omega
end Go.Proofs.Ytfjpdopljmilpaa.Plain
