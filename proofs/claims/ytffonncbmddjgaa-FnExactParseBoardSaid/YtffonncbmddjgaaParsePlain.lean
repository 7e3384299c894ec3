/-
  Plain facts on reading the texts of boards. No program stands in this text.
-/
import Derived.Test.YtffonncbmddjgaaTextPlain
namespace Go.Proofs.Ytffonncbmddjgaa.Plain
/-- A byte of a text. -/
def byt (s : ByteArray) (i : Nat) : UInt8 := s.data.toList.getD i 0
theorem byt_get (s : ByteArray) {i : Nat} (h : i < s.size) : s[i] = byt s i := by
  have h2 : i < s.data.toList.length := by simpa using h
  unfold byt
  rw [List.getD_eq_getElem?_getD, List.getElem?_eq_getElem h2]
  rfl
/-- The sign of the number t, as a number. -/
def sg (t : Nat) : Int := if t = 0 then 46 else 96 + (t : Int)
/-- The number of a sign, or -1. -/
def sgn (b : UInt8) : Int := if b.toNat = 46 then 0 else if 97 ≤ b.toNat ∧ b.toNat ≤ 113 then (b.toNat : Int) - 96 else -1
theorem sgn_at {b : UInt8} {t : Nat} (ht : t < 18) (h : sg t = (b.toNat : Int)) : sgn b = t := by
  unfold sg at h; unfold sgn
  split at h
  · rw [if_pos (by omega)]; omega
  · rw [if_neg (by omega), if_pos (by omega)]; omega
theorem sgn_none {b : UInt8} (h : ∀ t, t < 18 → sg t ≠ (b.toNat : Int)) : sgn b = -1 := by
  unfold sgn
  have h0 := h 0 (by omega)
  simp only [sg, if_true] at h0
  rw [if_neg (by omega), if_neg]
  rintro ⟨a, c⟩
  have := h (b.toNat - 96) (by omega)
  unfold sg at this
  rw [if_neg (by omega)] at this
  omega
theorem sgn_bd (b : UInt8) : -1 ≤ sgn b ∧ sgn b ≤ 17 := by
  unfold sgn; split
  · omega
  · split <;> omega
theorem sgn_letB {b : UInt8} (h : 0 ≤ sgn b) : letB (sgn b) = b := by
  have h2 := letB_nat h (sgn_bd b).2
  apply UInt8.toNat_inj.1
  have h3 : ((letB (sgn b)).toNat : Int) = (b.toNat : Int) := by
    rw [h2]
    unfold sgn at h ⊢
    by_cases h0 : b.toNat = 46
    · simp only [h0, if_true]; omega
    · by_cases h1 : 97 ≤ b.toNat ∧ b.toNat ≤ 113
      · simp only [h0, h1, if_true, if_false, and_self]
        rw [if_neg (by omega)]; omega
      · rw [if_neg h0, if_neg h1] at h; omega
  omega
theorem letB_sgn {t : Int} (h0 : 0 ≤ t) (h1 : t ≤ 17) : sgn (letB t) = t := by
  have h2 := letB_nat h0 h1
  have h3 := sgn_at (b := letB t) (t := t.toNat) (by omega) (by
    rw [h2]; unfold sg
    by_cases e : t = 0
    · rw [if_pos e, if_pos (by omega)]
    · rw [if_neg e, if_neg (by omega)]; omega)
  omega
/-- What a text must be at place i. -/
def okB (s : ByteArray) (i : Nat) : Prop := if i % 5 = 4 then byt s i = 47 else 0 ≤ sgn (byt s i)
instance (s : ByteArray) (i : Nat) : Decidable (okB s i) := by unfold okB; infer_instance
def ParOk (s : ByteArray) : Prop := s.size = 19 ∧ ∀ i, i < 19 → okB s i
instance (s : ByteArray) : Decidable (ParOk s) := by unfold ParOk; infer_instance
/-- Where a cell's sign stands. -/
def plT (j : Nat) : Nat := j / 4 * 5 + j % 4
def parF (s : ByteArray) : Nat → Int := fun j => sgn (byt s (plT j))
def parU (s : ByteArray) (i : Nat) : Nat → Int := fun j => if plT j < i then parF s j else 0
theorem parU_zero (s : ByteArray) (j : Nat) : parU s 0 j = 0 := by simp [parU]
theorem parU_skip (s : ByteArray) {q : Nat} (j : Nat) : parU s (q * 5 + 4) j = parU s (q * 5 + 4 + 1) j := by
  unfold parU plT
  by_cases h : j / 4 * 5 + j % 4 < q * 5 + 4
  · rw [if_pos h, if_pos (by omega)]
  · rw [if_neg h, if_neg (by omega)]
theorem parU_step (s : ByteArray) {q m : Nat} (hm : m < 4) (j : Nat) : upd (parU s (q * 5 + m)) (q * 4 + m) (sgn (byt s (q * 5 + m))) j = parU s (q * 5 + m + 1) j := by
  unfold upd parU plT
  by_cases e : j = q * 4 + m
  · subst e
    rw [if_pos rfl, if_pos (by omega)]
    unfold parF plT
    rw [show (q * 4 + m) / 4 * 5 + (q * 4 + m) % 4 = q * 5 + m by omega]
  · rw [if_neg e]
    by_cases h : j / 4 * 5 + j % 4 < q * 5 + m
    · rw [if_pos h, if_pos (by omega)]
    · rw [if_neg h, if_neg (by omega)]
theorem parU_all (s : ByteArray) : ∀ j, j < 16 → parU s 19 j = parF s j := by
  intro j hj; unfold parU plT; rw [if_pos (by omega)]
/-- What ParseBoard returns. -/
def parR (s : ByteArray) : Nat → Int := if ParOk s then parF s else fun _ => 0
def parO (s : ByteArray) : Bool := decide (ParOk s)
theorem par_yes {s : ByteArray} (h : ParOk s) : parR s = parF s ∧ parO s = true := by simp [parR, parO, h]
theorem par_no {s : ByteArray} (h : ¬ ParOk s) : parR s = (fun _ => 0) ∧ parO s = false := by simp [parR, parO, h]
/-- What the program reads at first. -/
def numN (b : UInt8) : Int := if b.toNat = 46 then 0 else (b.toNat : Int) - 97 + 1
def numF (s : ByteArray) : Nat → Int := fun j => numN (byt s (plT j))
theorem numN_sgn {b : UInt8} (h : 0 ≤ sgn b) : numN b = sgn b := by
  unfold sgn at h ⊢; unfold numN
  by_cases h0 : b.toNat = 46
  · rw [if_pos h0, if_pos h0]
  · rw [if_neg h0, if_neg h0] at *
    by_cases h1 : 97 ≤ b.toNat ∧ b.toNat ≤ 113
    · rw [if_pos h1]; omega
    · rw [if_neg h1] at h; omega
theorem text_list (f : Nat → Int) : textL f = [letB (f 0), letB (f 1), letB (f 2), letB (f 3), 47, letB (f 4), letB (f 5), letB (f 6), letB (f 7), 47, letB (f 8), letB (f 9), letB (f 10), letB (f 11), 47, letB (f 12), letB (f 13), letB (f 14), letB (f 15)] := rfl
theorem text_at (f : Nat → Int) (i : Nat) (hi : i < 19) : (textL f).getD i 0 = if i % 5 = 4 then 47 else letB (f (i / 5 * 4 + i % 5)) := by
  rw [text_list]
  rcases (by omega : i = 0 ∨ i = 1 ∨ i = 2 ∨ i = 3 ∨ i = 4 ∨ i = 5 ∨ i = 6 ∨ i = 7 ∨ i = 8 ∨ i = 9 ∨ i = 10 ∨ i = 11 ∨ i = 12 ∨ i = 13 ∨ i = 14 ∨ i = 15 ∨ i = 16 ∨ i = 17 ∨ i = 18) with rfl | rfl | rfl | rfl | rfl | rfl | rfl | rfl | rfl | rfl | rfl | rfl | rfl | rfl | rfl | rfl | rfl | rfl | rfl <;> rfl
theorem text_size (f : Nat → Int) : (tbs (textL f)).size = 19 := rfl
theorem byt_text (f : Nat → Int) (i : Nat) (hi : i < 19) : byt (tbs (textL f)) i = if i % 5 = 4 then 47 else letB (f (i / 5 * 4 + i % 5)) := by
  rw [← text_at f i hi]; rfl
theorem text_ext {s t : ByteArray} (h : s.size = t.size) (e : ∀ i, i < s.size → byt s i = byt t i) : s = t := by
  apply ByteArray.ext
  apply Array.toList_inj.1
  apply List.ext_getElem?
  intro i
  by_cases hi : i < s.size
  · have h1 := e i hi
    have a1 : i < s.data.toList.length := by simpa using hi
    have a2 : i < t.data.toList.length := by simpa using (h ▸ hi)
    unfold byt at h1
    rw [List.getD_eq_getElem?_getD, List.getD_eq_getElem?_getD, List.getElem?_eq_getElem a1, List.getElem?_eq_getElem a2] at h1
    rw [List.getElem?_eq_getElem a1, List.getElem?_eq_getElem a2]
    simpa using h1
  · have h1 := Nat.le_of_not_lt hi
    have h2 : t.size ≤ i := h ▸ h1
    rw [List.getElem?_eq_none (by simpa using h1), List.getElem?_eq_none (by simpa using h2)]
/-- The text of a valid board is read as the board. -/
theorem par_text {f : Nat → Int} (hV : Vd f) : ParOk (tbs (textL f)) ∧ ∀ j, j < 16 → parF (tbs (textL f)) j = f j := by
  refine ⟨⟨rfl, fun i hi => ?_⟩, fun j hj => ?_⟩
  · unfold okB
    rw [byt_text f i hi]
    by_cases h : i % 5 = 4
    · rw [if_pos h, if_pos h]
    · rw [if_neg h, if_neg h]
      have := hV (i / 5 * 4 + i % 5) (by omega)
      rw [letB_sgn this.1 this.2]; exact this.1
  · unfold parF plT
    rw [byt_text f _ (by omega), if_neg (by omega), show (j / 4 * 5 + j % 4) / 5 * 4 + (j / 4 * 5 + j % 4) % 5 = j by omega]
    have := hV j hj
    exact letB_sgn this.1 this.2
/-- A text that can be read is that of the board that is read. -/
theorem text_par {s : ByteArray} (h : ParOk s) : Vd (parF s) ∧ tbs (textL (parF s)) = s := by
  obtain ⟨h1, h2⟩ := h
  have hv : ∀ j, j < 16 → 0 ≤ parF s j := fun j hj => by
    have := h2 (plT j) (by unfold plT; omega)
    unfold okB plT at this
    rw [if_neg (by omega)] at this
    exact this
  refine ⟨fun j hj => ⟨hv j hj, (sgn_bd _).2⟩, text_ext (by rw [text_size, h1]) fun i hi => ?_⟩
  rw [text_size] at hi
  rw [byt_text _ i hi]
  have h3 := h2 i hi
  unfold okB at h3
  by_cases h : i % 5 = 4
  · rw [if_pos h] at h3 ⊢; exact h3.symm
  · rw [if_neg h] at h3 ⊢
    unfold parF plT
    rw [show (i / 5 * 4 + i % 5) / 4 * 5 + (i / 5 * 4 + i % 5) % 4 = i by omega]
    exact sgn_letB h3
theorem num_par {s : ByteArray} (h : ParOk s) : ∀ j, j < 16 → numF s j = parF s j := by
  intro j hj
  have h3 := h.2 (plT j) (by unfold plT; omega)
  unfold okB plT at h3
  rw [if_neg (by omega)] at h3
  exact numN_sgn h3
theorem textL_congr {f g : Nat → Int} (h : ∀ j, j < 16 → f j = g j) : textL f = textL g := by
  rw [text_list, text_list]
  simp only [h 0 (by omega), h 1 (by omega), h 2 (by omega), h 3 (by omega), h 4 (by omega), h 5 (by omega), h 6 (by omega), h 7 (by omega), h 8 (by omega), h 9 (by omega), h 10 (by omega), h 11 (by omega), h 12 (by omega), h 13 (by omega), h 14 (by omega), h 15 (by omega)]
theorem vd_congr {f g : Nat → Int} (h : ∀ j, j < 16 → f j = g j) (hv : Vd f) : Vd g := fun j hj => by rw [← h j hj]; exact hv j hj
theorem num_ok {s : ByteArray} : ParOk s ↔ s.size = 19 ∧ Vd (numF s) ∧ tbs (textL (numF s)) = s := by
  constructor
  · intro h
    obtain ⟨h1, h2⟩ := text_par h
    refine ⟨h.1, vd_congr (fun j hj => (num_par h j hj).symm) h1, ?_⟩
    rw [textL_congr (num_par h)]; exact h2
  · rintro ⟨_, h1, h2⟩
    rw [← h2]
    exact (par_text h1).1
end Go.Proofs.Ytffonncbmddjgaa.Plain
