/-
  Several texts in one:
  Plain facts on the boards before a board: their tiles and the cells that must or can have merged, what a move makes, and what the listed boards are. No program stands in this text.
  Plain facts on the listed boards before a board: each slides to it and is another one, they are as many as are counted, and what a cell's new tile was put into is made. No program stands in this text.
  Plain facts on what BoardsBefore and BackStep return. No program stands in this text.
  Plain facts on the numbers of cells that must or can have merged. No program stands in this text.
-/
import Derived.Test.YtmcmpedmgibmkabGreatPreList
import Derived.Test.YtmcmpedmgibmkabGreatPreMerge
import Derived.Test.YtmcmpedmgibmkabGreatLenPlain
namespace Go.Proofs.YtmcmpedmgibmkabGreat.Plain
set_option linter.unusedSimpArgs false
set_option linter.unusedVariables false
/-- How many of the first places are told. -/
def trN (b : Nat → Bool) : Nat → Nat
  | 0 => 0
  | p + 1 => trN b p + (if b p then 1 else 0)
theorem stN_tr (b : Nat → Bool) : ∀ p, stN b p = p + trN b p
  | 0 => rfl
  | p + 1 => by rw [stN, trN, stN_tr b p]; split <;> omega
theorem trN_mono {b c : Nat → Bool} : ∀ p, (∀ k, k < p → b k = true → c k = true) → trN b p ≤ trN c p
  | 0, _ => Nat.le_refl _
  | p + 1, h => by
    have := trN_mono p fun k hk => h k (by omega)
    rw [trN, trN]
    by_cases hb : b p = true
    · rw [hb, h p (by omega) hb]; simp; exact this
    · simp [hb]; omega
theorem trN_rest {b : Nat → Bool} {n : Nat} (h : ∀ j, n ≤ j → b j = false) : ∀ p, n ≤ p → trN b p = trN b n
  | p, hp => by
    rcases (by omega : p = n ∨ n < p) with rfl | l
    · rfl
    · obtain ⟨q, rfl⟩ : ∃ q, p = q + 1 := ⟨p - 1, by omega⟩
      rw [trN, h q (by omega), trN_rest h q (by omega)]; rfl
theorem many_cmpr {f : Nat → Int} : ∀ k, (∀ i, i < k → 0 ≤ f i) → many f k = ((cmpr f k).length : Int)
  | 0, _ => rfl
  | k + 1, h => by
    have ih := many_cmpr k fun i hi => h i (by omega)
    have := h k (by omega)
    rw [many, cmpr]
    by_cases h0 : f k = 0
    · rw [if_neg (by omega), if_pos h0]; exact ih
    · rw [if_pos (by omega), if_neg h0, List.length_append, ih]; rfl
/-- A row before another one has its tiles, and one more for each merger. -/
theorem bef_many {r : Nat → Int} {x : List Int} (h : Bef r x) : many (fn x) 4 = many r 4 + (trN (mgB (fn x)) 4 : Nat) := by
  obtain ⟨_, h2, h3⟩ := h
  have ho := slid_ok h2 4 (Nat.le_refl _)
  have hm := mr_ok h2 4 (Nat.le_refl _)
  have hr : VdRow r := fun i hi => by rw [← h3 i hi]; exact ⟨ho.row0 i, ho.row1 i⟩
  have e1 : (cmpr r 4).length = (slid (fn x) 4).n := by
    rw [← cmpr_congr 4 h3, cmpr_stop (m := (slid (fn x) 4).n) (fun j hj _ => ho.rest j hj) 4 ho.n_le (Nat.le_refl _), cmpr_pos _ fun j hj => ho.full j hj, cl_len]
  rw [many_cmpr 4 fun i hi => (h2 i hi).1, many_cmpr 4 fun i hi => (hr i hi).1, e1, ← hm.len, stN_tr]
  rw [show mgB (fn x) = (mrS (fn x) 4).b from rfl, trN_rest hm.rest 4 ho.n_le]
  omega
theorem mxL_ge {R : List (List Int)} {j : Nat} {x : List Int} (h : R[j]? = some x) : ∀ n, j < n → many (fn x) 4 ≤ mxL R n
  | 0, hj => by omega
  | n + 1, hj => by
    rw [mxL]
    rcases (by omega : j < n ∨ j = n) with l | rfl
    · have := mxL_ge h n l; omega
    · rw [List.getD_eq_getElem?_getD, h, Option.getD_some]; omega
theorem mxL_le {R : List (List Int)} {m : Int} (h0 : 0 ≤ m) (h : ∀ x, x ∈ R → many (fn x) 4 ≤ m) : ∀ n, n ≤ R.length → mxL R n ≤ m
  | 0, _ => by rw [mxL]; exact h0
  | n + 1, hn => by
    obtain ⟨x, hx⟩ : ∃ x, R[n]? = some x := ⟨R[n]'(by omega), List.getElem?_eq_getElem _⟩
    have ih := mxL_le h0 h n (by omega)
    have := h x (List.mem_of_getElem? hx)
    rw [mxL_step hx]; omega
theorem lnR_bef {f : Nat → Int} (h : Vd f) (d : Nat) {i : Nat} (hi : i < 4) (x : List Int) : x ∈ lnR f d i ↔ Bef (lineF f d i) x := rbR_bef (lineF_vd h d hi) x
/-- The most tiles of a row before a line: between those with all that must merge and those with all that can. -/
theorem mxL_line {f : Nat → Int} (h : Vd f) (d : Nat) {i : Nat} (hi : i < 4) (hne : 0 < (lnR f d i).length) :
    many (lineF f d i) 4 + (trN (alM (lnR f d i)) 4 : Nat) ≤ mxL (lnR f d i) (lnR f d i).length ∧ mxL (lnR f d i) (lnR f d i).length ≤ many (lineF f d i) 4 + (trN (anM (lnR f d i)) 4 : Nat) := by
  have hb := many_bd (lineF f d i) 4
  constructor
  · have hx : (lnR f d i)[0]? = some (lnR f d i)[0] := List.getElem?_eq_getElem hne
    have h1 := mxL_ge hx (lnR f d i).length hne
    have h2 := bef_many ((lnR_bef h d hi _).1 (List.mem_of_getElem? hx))
    have h3 : trN (alM (lnR f d i)) 4 ≤ trN (mgB (fn (lnR f d i)[0])) 4 := trN_mono 4 fun k _ hk => List.all_eq_true.1 hk _ (List.mem_of_getElem? hx)
    omega
  · refine mxL_le (by omega) (fun x hx => ?_) _ (Nat.le_refl _)
    have h2 := bef_many ((lnR_bef h d hi x).1 hx)
    have h3 : trN (mgB (fn x)) 4 ≤ trN (anM (lnR f d i)) 4 := trN_mono 4 fun k _ hk => List.any_eq_true.2 ⟨x, hx, hk⟩
    omega
/-- The tiles of a board, by the lines of a side. -/
def t1 (f : Nat → Int) (j : Nat) : Nat := if 0 < f j then 1 else 0
theorem many_t1 (f : Nat → Int) (k : Nat) : many f (k + 1) = many f k + (t1 f k : Nat) := by
  rw [many, t1]; split <;> simp
theorem emp_t1 {f : Nat → Int} {k : Nat} (h : 0 ≤ f k) : empN f (k + 1) + t1 f k = empN f k + 1 := by
  rw [empN, t1]
  by_cases h0 : f k = 0
  · rw [if_pos h0, if_neg (by omega)]
  · rw [if_neg h0, if_pos (by omega)]
theorem many_line (f : Nat → Int) (d i : Nat) : many (lineF f d i) 4 = ((t1 f (pos d i 0) + t1 f (pos d i 1) + t1 f (pos d i 2) + t1 f (pos d i 3) : Nat) : Int) := by
  have e : ∀ k, t1 (lineF f d i) k = t1 f (pos d i k) := fun k => rfl
  rw [many_t1, many_t1, many_t1, many_t1, e, e, e, e, show many (lineF f d i) 0 = 0 from rfl]
  omega
theorem four_side {d : Nat} (h : d < 4) : d = 0 ∨ d = 1 ∨ d = 2 ∨ d = 3 := by omega
theorem tiles_lines {f : Nat → Int} (h : Vd f) {d : Nat} (hd : d < 4) : many (lineF f d 0) 4 + many (lineF f d 1) 4 + many (lineF f d 2) 4 + many (lineF f d 3) 4 = 16 - (empN f 16 : Nat) := by
  have e0 := emp_t1 (h 0 (by omega)).1
  have e1 := emp_t1 (h 1 (by omega)).1
  have e2 := emp_t1 (h 2 (by omega)).1
  have e3 := emp_t1 (h 3 (by omega)).1
  have e4 := emp_t1 (h 4 (by omega)).1
  have e5 := emp_t1 (h 5 (by omega)).1
  have e6 := emp_t1 (h 6 (by omega)).1
  have e7 := emp_t1 (h 7 (by omega)).1
  have e8 := emp_t1 (h 8 (by omega)).1
  have e9 := emp_t1 (h 9 (by omega)).1
  have e10 := emp_t1 (h 10 (by omega)).1
  have e11 := emp_t1 (h 11 (by omega)).1
  have e12 := emp_t1 (h 12 (by omega)).1
  have e13 := emp_t1 (h 13 (by omega)).1
  have e14 := emp_t1 (h 14 (by omega)).1
  have e15 := emp_t1 (h 15 (by omega)).1
  have z : empN f 0 = 0 := rfl
  simp only [Nat.reduceAdd] at e0 e1 e2 e3 e4 e5 e6 e7 e8 e9 e10 e11 e12 e13 e14 e15
  rw [many_line, many_line, many_line, many_line]
  rcases four_side hd with rfl | rfl | rfl | rfl
  · simp only [pos]; simp only [if_true, Nat.reduceMul, Nat.reduceAdd, Nat.reduceSub]; omega
  · simp only [pos]; simp (config := { decide := true }) only [if_true, if_false, Nat.reduceMul, Nat.reduceAdd, Nat.reduceSub]; omega
  · simp only [pos]; simp (config := { decide := true }) only [if_true, if_false, Nat.reduceMul, Nat.reduceAdd, Nat.reduceSub]; omega
  · simp only [pos]; simp (config := { decide := true }) only [if_true, if_false, Nat.reduceMul, Nat.reduceAdd, Nat.reduceSub]; omega
/-- Cells that are told, by the lines of a side. -/
def c1 (o : Nat → Bool) (j : Nat) : Nat := if o j then 1 else 0
theorem ce_c1 (o : Nat → Bool) (k : Nat) : ceN o (k + 1) = ceN o k + c1 o k := by rw [ceN, c1]; split <;> simp
theorem cells_lines (o : Nat → Bool) {d : Nat} (hd : d < 4) : trN (fun k => o (pos d 0 k)) 4 + trN (fun k => o (pos d 1 k)) 4 + trN (fun k => o (pos d 2 k)) 4 + trN (fun k => o (pos d 3 k)) 4 = ceN o 16 := by
  have e : ∀ i, trN (fun k => o (pos d i k)) 4 = c1 o (pos d i 0) + c1 o (pos d i 1) + c1 o (pos d i 2) + c1 o (pos d i 3) := fun i => by
    simp only [trN, c1, Nat.zero_add]
  rw [e, e, e, e]
  have s : ceN o 16 = c1 o 0 + c1 o 1 + c1 o 2 + c1 o 3 + c1 o 4 + c1 o 5 + c1 o 6 + c1 o 7 + c1 o 8 + c1 o 9 + c1 o 10 + c1 o 11 + c1 o 12 + c1 o 13 + c1 o 14 + c1 o 15 := by
    rw [ce_c1, ce_c1, ce_c1, ce_c1, ce_c1, ce_c1, ce_c1, ce_c1, ce_c1, ce_c1, ce_c1, ce_c1, ce_c1, ce_c1, ce_c1, ce_c1, show ceN o 0 = 0 from rfl, Nat.zero_add]
  rw [s]
  rcases four_side hd with rfl | rfl | rfl | rfl
  · simp only [pos]; simp only [if_true, Nat.reduceMul, Nat.reduceAdd, Nat.reduceSub]; omega
  · simp only [pos]; simp (config := { decide := true }) only [if_true, if_false, Nat.reduceMul, Nat.reduceAdd, Nat.reduceSub]; omega
  · simp only [pos]; simp (config := { decide := true }) only [if_true, if_false, Nat.reduceMul, Nat.reduceAdd, Nat.reduceSub]; omega
  · simp only [pos]; simp (config := { decide := true }) only [if_true, if_false, Nat.reduceMul, Nat.reduceAdd, Nat.reduceSub]; omega
theorem mkC_line (s : Bool) (f : Nat → Int) (d : Nat) {i : Nat} (hi : i < 4) : trN (fun k => mkC s f d (pos d i k)) 4 = trN (if s then anM (lnR f d i) else alM (lnR f d i)) 4 := by
  have e : ∀ k, k < 4 → mkC s f d (pos d i k) = (if s then anM (lnR f d i) else alM (lnR f d i)) k := fun k hk => by
    unfold mkC; rw [lineOf_pos hi hk, placeOf_pos hi hk]; split <;> rfl
  exact Nat.le_antisymm (trN_mono 4 fun k hk h => by rw [← e k hk]; exact h) (trN_mono 4 fun k hk h => by rw [e k hk]; exact h)
/-- A line of a board that slides to itself is before itself. -/
theorem still_in {f : Nat → Int} {d : Nat} (h : Vd f) (hm : isMv f d = false) {i : Nat} (hi : i < 4) : cl 4 (lineF f d i) ∈ lnR f d i := by
  have hv := lineF_vd h d hi
  exact (lnR_bef h d hi _).2 ⟨cl_len _ _, fun j hj => by rw [fn_cl _ j hj]; exact hv j hj, fun j hj => by rw [slid_congr (g := lineF f d i) 4 (fn_cl _)]; exact still_line hm hi j hj⟩
theorem cntP_pos {f : Nat → Int} {d : Nat} : ∀ {n : Nat}, (∀ i, i < n → 0 < (lnR f d i).length) → 0 < cntP f d n
  | 0, _ => by simp [cntP]
  | n + 1, h => by rw [cntP]; exact Nat.mul_pos (cntP_pos fun i hi => h i (by omega)) (h n (by omega))
theorem cntP_all {f : Nat → Int} {d : Nat} : ∀ {n : Nat}, 0 < cntP f d n → ∀ i, i < n → 0 < (lnR f d i).length
  | 0, _, i, hi => by omega
  | n + 1, h, i, hi => by
    rw [cntP] at h
    rcases (by omega : i < n ∨ i = n) with l | rfl
    · exact cntP_all (Nat.pos_of_mul_pos_right h) i l
    · exact Nat.pos_of_mul_pos_left h
theorem cntP_two {f : Nat → Int} {d : Nat} : ∀ {n : Nat}, (∀ i, i < n → 0 < (lnR f d i).length) → (∃ i, i < n ∧ 2 ≤ (lnR f d i).length) → 2 ≤ cntP f d n
  | 0, _, ⟨i, hi, _⟩ => by omega
  | n + 1, h, ⟨i, hi, h2⟩ => by
    rw [cntP]
    rcases (by omega : i < n ∨ i = n) with l | rfl
    · have := Nat.mul_le_mul (cntP_two (fun i hi => h i (by omega)) ⟨i, l, h2⟩) (h n (by omega)); omega
    · have := Nat.mul_le_mul (show 1 ≤ cntP f d i from cntP_pos fun k hk => h k (by omega)) h2; omega
theorem still_pos {f : Nat → Int} {d : Nat} (h : Vd f) (hm : isMv f d = false) : 0 < cntP f d 4 := cntP_pos fun i hi => List.length_pos_of_mem (still_in h hm hi)
theorem cntB_nn {f : Nat → Int} (h : Vd f) (d : Nat) : 0 ≤ cntB f d := by
  unfold cntB; split
  · omega
  · rename_i hm; have := still_pos h (by simpa using hm); omega
theorem mb_lines {f : Nat → Int} {d : Int} (h : MbOk f d) : ∀ i, i < 4 → 0 < (lnR f d.toNat i).length := by
  obtain ⟨h1, h2⟩ := h
  rw [cbR_yes h1] at h2
  refine cntP_all (n := 4) ?_
  unfold cntB at h2
  split at h2
  · omega
  · rename_i hm; exact still_pos h1.1 (by simpa using hm)
/-- The greatest number of tiles before a board, and its cells that must or can have merged. -/
theorem mb_between {f : Nat → Int} {d : Int} (h : MbOk f d) : mbR f d ≤ 16 - (empN f 16 : Nat) + (mmN true f d : Nat) ∧ 16 - (empN f 16 : Nat) + (mmN false f d : Nat) ≤ mbR f d := by
  have hl := mb_lines h
  obtain ⟨⟨hV, hd0, hd3⟩, _⟩ := id h
  have hd : d.toNat < 4 := by omega
  rw [(mb_yes h).2, (mm_yes true h).2, (mm_yes false h).2]
  generalize d.toNat = e at *
  have q0 := mxL_line hV e (i := 0) (by omega) (hl 0 (by omega))
  have q1 := mxL_line hV e (i := 1) (by omega) (hl 1 (by omega))
  have q2 := mxL_line hV e (i := 2) (by omega) (hl 2 (by omega))
  have q3 := mxL_line hV e (i := 3) (by omega) (hl 3 (by omega))
  have t := tiles_lines hV hd
  have ct := cells_lines (mkC true f e) hd
  have cf := cells_lines (mkC false f e) hd
  rw [mkC_line true f e (by omega), mkC_line true f e (by omega), mkC_line true f e (by omega), mkC_line true f e (by omega)] at ct
  rw [mkC_line false f e (by omega), mkC_line false f e (by omega), mkC_line false f e (by omega), mkC_line false f e (by omega)] at cf
  simp only [if_true] at ct
  simp only [Bool.false_eq_true, if_false] at cf
  have s : mbS f e 4 = mxL (lnR f e 0) (lnR f e 0).length + mxL (lnR f e 1) (lnR f e 1).length + mxL (lnR f e 2) (lnR f e 2).length + mxL (lnR f e 3) (lnR f e 3).length := by
    rw [mbS, mbS, mbS, mbS, mbS]; omega
  omega
/-- Each line of what slides is before that line of what it slides to. -/
theorem slide_in {f : Nat → Int} (h : Vd f) (d : Nat) {i : Nat} (hi : i < 4) : cl 4 (lineF f d i) ∈ lnR (slideB f d) d i := by
  have hv := lineF_vd h d hi
  refine (lnR_bef (slideB_vd h d) d hi _).2 ⟨cl_len _ _, fun j hj => by rw [fn_cl _ j hj]; exact hv j hj, fun j hj => ?_⟩
  rw [slid_congr (g := lineF f d i) 4 (fn_cl _)]
  show _ = slideB f d (pos d i j)
  unfold slideB
  rw [lineOf_pos hi hj, placeOf_pos hi hj]
theorem len_two {α : Type} [DecidableEq α] {L : List α} {a b : α} (ha : a ∈ L) (hb : b ∈ L) (hne : a ≠ b) : 2 ≤ L.length := by
  have h1 := List.length_erase_of_mem ha
  have h2 : b ∈ L.erase a := (List.mem_erase_of_ne (Ne.symm hne)).2 hb
  have h3 := List.length_pos_of_mem h2
  omega
/-- What a move makes has a board before it. -/
theorem move_back {f : Nat → Int} (h : Vd f) {d : Nat} (hm : isMv f d = true) : 1 ≤ cntB (slideB f d) d := by
  have hin : ∀ i, i < 4 → 0 < (lnR (slideB f d) d i).length := fun i hi => List.length_pos_of_mem (slide_in h d hi)
  unfold cntB
  split
  · have := cntP_pos hin; omega
  · rename_i hs
    have hs : isMv (slideB f d) d = false := by simpa using hs
    have hne : ∃ i, i < 4 ∧ 2 ≤ (lnR (slideB f d) d i).length := by
      by_cases hx : ∃ i, i < 4 ∧ 2 ≤ (lnR (slideB f d) d i).length
      · exact hx
      · exfalso
        have hall : ∀ i, i < 4 → cl 4 (lineF f d i) = cl 4 (lineF (slideB f d) d i) := fun i hi => by
          by_cases e : cl 4 (lineF f d i) = cl 4 (lineF (slideB f d) d i)
          · exact e
          · exact absurd ⟨i, hi, len_two (slide_in h d hi) (still_in (slideB_vd h d) hs hi) e⟩ hx
        have : sameB (slideB f d) f = true := sameB_iff.2 fun j hj => by
          have := cl_inj.1 (hall (lineOf d j) (lineOf_lt hj)) (placeOf d j) (placeOf_lt hj)
          unfold lineF at this
          rw [pos_of hj] at this
          exact this.symm
        unfold isMv at hm; rw [this] at hm; cases hm
    have := cntP_two hin hne
    omega
theorem move_mb {f : Nat → Int} (h : Vd f) {d : Nat} (hd : d < 4) (hm : isMv f d = true) : MbOk (slideB f d) (d : Int) ∧ 1 ≤ cbR (slideB f d) (d : Int) := by
  have h1 := cbR_nat (slideB_vd h d) hd
  have h2 := move_back h hm
  exact ⟨⟨⟨slideB_vd h d, by omega, by omega⟩, by omega⟩, by omega⟩
/-- A board before another one has at most the greatest number of tiles. -/
theorem move_most {f : Nat → Int} (h : Vd f) {d : Nat} (hd : d < 4) (hm : isMv f d = true) : 16 - (empN f 16 : Nat) ≤ mbR (slideB f d) (d : Int) := by
  rw [(mb_yes (move_mb h hd hm).1).2, Int.toNat_natCast]
  have t := tiles_lines h hd
  have q : ∀ i, i < 4 → many (lineF f d i) 4 ≤ mxL (lnR (slideB f d) d i) (lnR (slideB f d) d i).length := fun i hi => by
    obtain ⟨j, hj⟩ := List.getElem?_of_mem (slide_in h d hi)
    have := mxL_ge hj (lnR (slideB f d) d i).length (List.getElem?_eq_some_iff.1 hj).1
    have e : many (fn (cl 4 (lineF f d i))) 4 = many (lineF f d i) 4 := by
      rw [many_t1, many_t1, many_t1, many_t1, many_t1, many_t1, many_t1, many_t1]
      have e : ∀ k, k < 4 → t1 (fn (cl 4 (lineF f d i))) k = t1 (lineF f d i) k := fun k hk => by unfold t1; rw [fn_cl _ k hk]
      rw [e 0 (by omega), e 1 (by omega), e 2 (by omega), e 3 (by omega)]; rfl
    omega
  have q0 := q 0 (by omega); have q1 := q 1 (by omega); have q2 := q 2 (by omega); have q3 := q 3 (by omega)
  have s : ∀ g : Nat → Int, mbS g d 4 = mxL (lnR g d 0) (lnR g d 0).length + mxL (lnR g d 1) (lnR g d 1).length + mxL (lnR g d 2) (lnR g d 2).length + mxL (lnR g d 3) (lnR g d 3).length := fun g => by
    rw [mbS, mbS, mbS, mbS, mbS]; omega
  rw [s]; omega
end Go.Proofs.YtmcmpedmgibmkabGreat.Plain
namespace Go.Proofs.YtmcmpedmgibmkabGreat.Plain
set_option linter.unusedVariables false
theorem spS_mem {f : Nat → Int} (h : Vd f) (d : Nat) (x : List Int) : x ∈ spS f d 4 ↔ x.length = 16 ∧ Vd (fn x) ∧ ∀ j, j < 16 → slideB (fn x) d j = f j := by
  rw [spS_ch, List.mem_map]
  constructor
  · rintro ⟨c, hc, rfl⟩
    obtain ⟨c1, c2⟩ := (chL_mem _ 4 c).1 hc
    have hrow : ∀ i, i < 4 → Bef (lineF f d i) (c.getD i []) := fun i hi => by
      have q : c[i]? = some (c[i]'(by omega)) := List.getElem?_eq_getElem _
      rw [List.getD_eq_getElem?_getD, q, Option.getD_some]
      exact (lnR_bef h d hi _).1 (c2 i _ q)
    refine ⟨cl_len _ _, fun j hj => ?_, fun j hj => ?_⟩
    · have hi := lineOf_lt (d := d) hj
      rw [toS, fn_cl _ j hj, if_pos hi]
      exact (hrow _ hi).2.1 _ (placeOf_lt hj)
    · have hi := lineOf_lt (d := d) hj
      have hp := placeOf_lt (d := d) hj
      have e : f j = lineF f d (lineOf d j) (placeOf d j) := by unfold lineF; rw [pos_of hj]
      unfold slideB
      rw [e, ← (hrow _ hi).2.2 _ hp, slid_congr (f := lineF (fn (toS f d 4 c)) d (lineOf d j)) (g := fn (c.getD (lineOf d j) [])) 4 fun k hk => toS_line hi hk]
  · rintro ⟨h1, h2, h3⟩
    refine ⟨[cl 4 (lineF (fn x) d 0), cl 4 (lineF (fn x) d 1), cl 4 (lineF (fn x) d 2), cl 4 (lineF (fn x) d 3)], (chL_mem _ 4 _).2 ⟨rfl, fun k r hr => ?_⟩, ?_⟩
    · have hk : k < 4 := (List.getElem?_eq_some_iff.1 hr).1
      have e : r = cl 4 (lineF (fn x) d k) := by
        rcases (by omega : k = 0 ∨ k = 1 ∨ k = 2 ∨ k = 3) with rfl | rfl | rfl | rfl <;> simp at hr <;> exact hr.symm
      rw [e]
      have hv := lineF_vd h2 d hk
      refine (lnR_bef h d hk _).2 ⟨cl_len _ _, fun j hj => by rw [fn_cl _ j hj]; exact hv j hj, fun j hj => ?_⟩
      rw [slid_congr (g := lineF (fn x) d k) 4 (fn_cl _)]
      have := h3 (pos d k j) (pos_lt hk hj)
      unfold slideB at this
      rw [lineOf_pos hk hj, placeOf_pos hk hj] at this
      exact this
    · rw [← cl_fn h1]
      refine cl_inj.2 fun j hj => ?_
      have hi := lineOf_lt (d := d) hj
      have hp := placeOf_lt (d := d) hj
      rw [if_pos hi]
      have e : fn x j = lineF (fn x) d (lineOf d j) (placeOf d j) := by unfold lineF; rw [pos_of hj]
      rw [cl_fn h1, e, ← fn_cl (lineF (fn x) d (lineOf d j)) (placeOf d j) hp]
      rcases (by omega : lineOf d j = 0 ∨ lineOf d j = 1 ∨ lineOf d j = 2 ∨ lineOf d j = 3) with q | q | q | q <;> rw [q] <;> rfl
theorem bf_slides {f : Nat → Int} (h : Vd f) {d : Nat} {x : List Int} (hx : x ∈ bfL f d) : Vd (fn x) ∧ (∀ j, j < 16 → slideB (fn x) d j = f j) ∧ sameB (fn x) f = false := by
  obtain ⟨h1, h2⟩ := (bfL_mem f d x).1 hx
  obtain ⟨h3, h4, h5⟩ := (spS_mem h d x).1 h2
  refine ⟨h4, h5, ?_⟩
  rcases hs : sameB (fn x) f with _ | _
  · rfl
  · exact absurd (by rw [← cl_fn h3, cl_inj]; exact sameB_iff.1 hs) h1
theorem still_mem {f : Nat → Int} (h : Vd f) (d : Nat) : cl 16 f ∈ spS f d 4 ↔ isMv f d = false := by
  rw [spS_mem h]
  have e : ∀ j, j < 16 → fn (cl 16 f) j = f j := fn_cl f
  have es : ∀ j, j < 16 → slideB (fn (cl 16 f)) d j = slideB f d j := fun j hj => by
    unfold slideB; rw [slid_congr (f := lineF (fn (cl 16 f)) d (lineOf d j)) (g := lineF f d (lineOf d j)) 4 fun k hk => e _ (pos_lt (lineOf_lt hj) hk)]
  unfold isMv
  constructor
  · rintro ⟨_, _, h3⟩
    rw [sameB_iff.2 fun j hj => (es j hj).symm.trans (h3 j hj)]; rfl
  · intro hm
    have hs : sameB (slideB f d) f = true := by simpa using hm
    exact ⟨cl_len _ _, fun j hj => by rw [e j hj]; exact h j hj, fun j hj => (es j hj).trans (sameB_iff.1 hs j hj)⟩
theorem bfL_nodup (f : Nat → Int) (d : Nat) : (bfL f d).Nodup := (bfL_ss f d).imp fun {a b} hab e => by rw [e, lt_irrefl] at hab; cases hab
theorem bfL_len {f : Nat → Int} (h : Vd f) (d : Nat) : ((bfL f d).length : Int) = cntB f d := by
  cases hm : isMv f d with
  | true =>
    rw [cntB_yes hm, ← spS_len]
    congr 1
    refine len_same (bfL_nodup f d) (spS_nodup h d) fun x => ?_
    rw [bfL_mem]
    refine ⟨fun q => q.2, fun q => ⟨fun e => ?_, q⟩⟩
    rw [e, still_mem h, hm] at q; cases q
  | false =>
    have hin := (still_mem h d).2 hm
    rw [cntB_no hm, ← spS_len]
    have hl := List.length_erase_of_mem hin
    have hp := List.length_pos_of_mem hin
    have : (bfL f d).length = ((spS f d 4).erase (cl 16 f)).length := len_same (bfL_nodup f d) ((spS_nodup h d).sublist List.erase_sublist) fun x => by
      rw [bfL_mem, List.Nodup.mem_erase_iff (spS_nodup h d)]
    omega
theorem bb_len {f : Nat → Int} {d : Int} (h : BbOk f d) : ((bbR f d).length : Int) = cbR f d := by
  rw [(bb_yes h).2, cbR_yes h.1, bfL_len h.1.1]
theorem bbO_eq (f : Nat → Int) (d : Int) : bbO f d = (slideRO f d && decide (cbR f d ≤ 300)) := by
  by_cases h : SlideOk f d
  · rw [(slide_yes h).1, Bool.true_and]
    unfold bbO; rw [Bool.eq_iff_iff, decide_eq_true_iff, decide_eq_true_iff]
    exact ⟨fun q => q.2, fun q => ⟨h, q⟩⟩
  · rw [(slide_no h).1, Bool.false_and]; exact (bb_no fun q => h q.1).1
theorem bb_less {f : Nat → Int} {d : Int} {i : Nat} {x y : List Int} (hx : (bbR f d)[i]? = some x) (hy : (bbR f d)[i + 1]? = some y) : lt 16 x y = true := by
  by_cases h : BbOk f d
  · rw [(bb_yes h).2] at hx hy
    obtain ⟨h1, e1⟩ := List.getElem?_eq_some_iff.1 hx
    obtain ⟨h2, e2⟩ := List.getElem?_eq_some_iff.1 hy
    have := List.pairwise_iff_getElem.1 (bfL_ss f d.toNat) i (i + 1) h1 h2 (by omega)
    rwa [e1, e2] at this
  · rw [(bb_no h).2] at hx; simp at hx
theorem bb_in {f : Nat → Int} {d : Int} {x : List Int} (hx : x ∈ bbR f d) : x.length = 16 ∧ SlideOk f d ∧ Vd (fn x) ∧ (∀ j, j < 16 → slideB (fn x) d.toNat j = f j) ∧ sameB (fn x) f = false := by
  by_cases h : BbOk f d
  · rw [(bb_yes h).2] at hx
    exact ⟨bfL_all f _ x hx, h.1, bf_slides h.1.1 hx⟩
  · rw [(bb_no h).2] at hx; cases hx
/-- A side is among those into a board just if its number of ways is above 0. -/
theorem si_has {f : Nat → Int} {d : Int} (h : SlideOk f d) : decide (d ∈ siR f) = decide (0 < cbR f d) := by
  obtain ⟨hV, h0, h3⟩ := id h
  obtain ⟨k, rfl⟩ := Int.eq_ofNat_of_zero_le h0
  rw [Bool.eq_iff_iff, decide_eq_true_iff, decide_eq_true_iff, cbR_yes h, siR_yes hV, sdW_mem, Int.toNat_natCast]
  constructor
  · rintro ⟨j, _, e, q⟩
    obtain rfl : k = j := by exact_mod_cast e
    exact q
  · intro q; exact ⟨k, by omega, rfl, q⟩
theorem wy_at {f : Nat → Int} {d : Int} (h : SlideOk f d) : wyR f d.toNat = cbR f d := by rw [wyR_yes h.1, cbR_yes h]
/-- The cells that are told, one after the other. -/
theorem ce_at (o : Nat → Bool) : ∀ n i, i < ceN o n → ∃ k, k < n ∧ o k = true ∧ (ceL o n)[i * 2]? = some ((k / 4 : Nat) : Int) ∧ (ceL o n)[i * 2 + 1]? = some ((k % 4 : Nat) : Int)
  | 0, i, h => by simp [ceN] at h
  | n + 1, i, h => by
    have hl := ce_len o n
    cases hb : o n with
    | false =>
      rw [(ce_no hb).2] at h
      obtain ⟨k, a, b, c, e⟩ := ce_at o n i h
      rw [(ce_no hb).1]; exact ⟨k, by omega, b, c, e⟩
    | true =>
      rw [(ce_yes hb).2] at h
      rw [(ce_yes hb).1]
      rcases (by omega : i < ceN o n ∨ i = ceN o n) with q | rfl
      · obtain ⟨k, a, b, c, e⟩ := ce_at o n i q
        exact ⟨k, by omega, b, by rw [List.getElem?_append_left (by omega)]; exact c, by rw [List.getElem?_append_left (by omega)]; exact e⟩
      · refine ⟨n, by omega, hb, ?_, ?_⟩
        · rw [List.getElem?_append_right (by omega), show ceN o n * 2 - (ceL o n).length = 0 by omega]; rfl
        · rw [List.getElem?_append_right (by omega), show ceN o n * 2 + 1 - (ceL o n).length = 1 by omega]; rfl
theorem ar_in {f : Nat → Int} {k : Nat} (h : arO f k = true) : 1 ≤ f k ∧ f k ≤ 2 ∧ mdR (upd f k 0) = true := of_decide_eq_true h
/-- What must have merged can have. -/
theorem must_can {f : Nat → Int} {d : Int} (h : MbOk f d) {k : Nat} (hk : k < 16) (hm : mkC false f d.toNat k = true) : mkC true f d.toNat k = true := by
  have hl := mb_lines h (lineOf d.toNat k) (lineOf_lt hk)
  unfold mkC at *
  simp only [Bool.false_eq_true, if_false, if_true] at *
  have hx : (lnR f d.toNat (lineOf d.toNat k))[0]? = some (lnR f d.toNat (lineOf d.toNat k))[0] := List.getElem?_eq_getElem hl
  exact List.any_eq_true.2 ⟨_, List.mem_of_getElem? hx, List.all_eq_true.1 hm _ (List.mem_of_getElem? hx)⟩
theorem ce_has (o : Nat → Bool) : ∀ n k, k < n → o k = true → ∃ i, i < ceN o n ∧ (ceL o n)[i * 2]? = some ((k / 4 : Nat) : Int) ∧ (ceL o n)[i * 2 + 1]? = some ((k % 4 : Nat) : Int)
  | 0, k, h, _ => by omega
  | n + 1, k, h, hb => by
    have hl := ce_len o n
    rcases (by omega : k < n ∨ k = n) with q | rfl
    · obtain ⟨i, a, b, c⟩ := ce_has o n k q hb
      cases hn : o n with
      | false => rw [(ce_no hn).1, (ce_no hn).2]; exact ⟨i, a, b, c⟩
      | true =>
        rw [(ce_yes hn).1, (ce_yes hn).2]
        exact ⟨i, by omega, by rw [List.getElem?_append_left (by omega)]; exact b, by rw [List.getElem?_append_left (by omega)]; exact c⟩
    · rw [(ce_yes hb).1, (ce_yes hb).2]
      refine ⟨ceN o k, by omega, ?_, ?_⟩
      · rw [List.getElem?_append_right (by omega), show ceN o k * 2 - (ceL o k).length = 0 by omega]; rfl
      · rw [List.getElem?_append_right (by omega), show ceN o k * 2 + 1 - (ceL o k).length = 1 by omega]; rfl
end Go.Proofs.YtmcmpedmgibmkabGreat.Plain
namespace Go.Proofs.YtmcmpedmgibmkabGreat.Plain
theorem bbR_len (f : Nat → Int) (d : Int) : ∀ x, x ∈ bbR f d → x.length = 16 := fun _ hx => (bb_in hx).1
theorem bbR_le (f : Nat → Int) (d : Int) : (bbR f d).length ≤ 50625 := by
  by_cases h : BbOk f d
  · rw [(bb_yes h).2]; exact Nat.le_trans (bfL_le f _) (cntP_bd f _ (Nat.le_refl 4))
  · rw [(bb_no h).2]; exact Nat.zero_le _
/-- What BackStep returns. -/
def BsOk (f : Nat → Int) (d k : Int) : Prop := BbOk f d ∧ 0 ≤ k ∧ k < ((bbR f d).length : Int)
noncomputable instance (f : Nat → Int) (d k : Int) : Decidable (BsOk f d k) := Classical.propDecidable _
noncomputable def bsO (f : Nat → Int) (d k : Int) : Bool := decide (BsOk f d k)
noncomputable def bsB (f : Nat → Int) (d k : Int) : Nat → Int := if BsOk f d k then fn ((bbR f d).getD k.toNat []) else fun _ => 0
theorem bs_yes {f : Nat → Int} {d k : Int} (h : BsOk f d k) : bsO f d k = true ∧ bsB f d k = fn ((bbR f d).getD k.toNat []) := ⟨decide_eq_true h, by simp [bsB, h]⟩
theorem bs_no {f : Nat → Int} {d k : Int} (h : ¬ BsOk f d k) : bsO f d k = false ∧ bsB f d k = fun _ => 0 := ⟨decide_eq_false h, by simp [bsB, h]⟩
theorem bs_in {f : Nat → Int} {d k : Int} (h : BsOk f d k) : ∃ x, (bbR f d)[k.toNat]? = some x ∧ bsB f d k = fn x := by
  have hk : k.toNat < (bbR f d).length := by have := h.2; omega
  refine ⟨_, List.getElem?_eq_getElem hk, ?_⟩
  rw [(bs_yes h).2, List.getD_eq_getElem?_getD, List.getElem?_eq_getElem hk, Option.getD_some]
end Go.Proofs.YtmcmpedmgibmkabGreat.Plain
namespace Go.Proofs.YtmcmpedmgibmkabGreat.Plain
theorem mm_len (s : Bool) (f : Nat → Int) (d : Int) : (mmL s f d).length = mmN s f d * 2 := by
  unfold mmL mmN; split
  · exact ce_len _ 16
  · rfl
theorem mmN_le (s : Bool) (f : Nat → Int) (d : Int) : mmN s f d ≤ 16 := by
  unfold mmN; split
  · exact ceN_le _ 16
  · omega
end Go.Proofs.YtmcmpedmgibmkabGreat.Plain
