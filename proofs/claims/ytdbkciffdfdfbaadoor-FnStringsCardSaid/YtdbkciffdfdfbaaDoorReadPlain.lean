/-
  Plain facts on reading decimal numerals: the shape of a numeral of at most six digits, its value, and that strconv.Atoi's function reads it back. No program stands in this text.
-/
import Derived.Test.YtdbkciffdfdfbaaDoorNumPlain
import Derived.Lib.AtoiAll
namespace Go.Proofs.YtdbkciffdfdfbaaDoor.Plain
open Go.Lib

def isDig (c : UInt8) : Prop := 48 ≤ c.toNat ∧ c.toNat ≤ 57
/-- The value of digits behind a number. -/
def valFrom (a : Nat) (l : List UInt8) : Nat := l.foldl (fun a c => 10 * a + (c.toNat - 48)) a
def val (l : List UInt8) : Nat := valFrom 0 l

theorem val_snoc (l : List UInt8) (c : UInt8) : val (l ++ [c]) = 10 * val l + (c.toNat - 48) := by
  unfold val valFrom; rw [List.foldl_append]; rfl
theorem val_lt (l : List UInt8) (h : ∀ c ∈ l, isDig c) : val l < 10 ^ l.length := by
  suffices all : ∀ (l : List UInt8) (a k : Nat), (∀ c ∈ l, isDig c) → a < 10 ^ k → valFrom a l < 10 ^ (k + l.length) by
    have := all l 0 0 h (by decide)
    simpa [val] using this
  intro l
  induction l with
  | nil => intro a k _ ha; simpa [valFrom] using ha
  | cons c l ih =>
    intro a k h ha
    have hc : isDig c := h c (by simp)
    have := ih (10 * a + (c.toNat - 48)) (k + 1) (fun x hx => h x (by simp [hx])) (by unfold isDig at hc; rw [Nat.pow_succ]; omega)
    have e : k + 1 + l.length = k + (c :: l).length := by simp; omega
    rw [e] at this
    exact this
theorem dig_of (n : Nat) (h : n < 10) : (UInt8.ofNat (48 + n)).toNat = 48 + n := by
  rw [UInt8.toNat_ofNat']; omega
theorem decDigits_shape (u : Nat) : val (decDigits u) = u ∧ (∀ c ∈ decDigits u, isDig c) ∧ 1 ≤ (decDigits u).length := by
  induction u using Nat.strongRecOn with
  | ind u ih =>
    rw [decDigits]
    split
    · rename_i h
      refine ⟨?_, ?_, by simp⟩
      · unfold val valFrom
        simp only [List.foldl_cons, List.foldl_nil]
        rw [dig_of u h]; omega
      · intro c hc
        simp only [List.mem_cons, List.not_mem_nil, or_false] at hc
        subst hc
        unfold isDig
        rw [dig_of u h]; omega
    · rename_i h
      obtain ⟨h1, h2, h3⟩ := ih (u / 10) (by omega)
      refine ⟨?_, ?_, by simp⟩
      · rw [val_snoc, h1, dig_of (u % 10) (by omega)]; omega
      · intro c hc
        rcases List.mem_append.1 hc with hc | hc
        · exact h2 c hc
        · simp only [List.mem_cons, List.not_mem_nil, or_false] at hc
          subst hc
          unfold isDig
          rw [dig_of (u % 10) (by omega)]; omega
theorem decDigits_len (u : Nat) (h : u < 1000000) : (decDigits u).length ≤ 6 := by
  rw [decDigits_length]; exact nDigits_le 5 u (by omega)

/-- The numeral of v, of at most six digits: digits of that value, a sign ahead where v is negative. -/
theorem num_shape (v : Int) (h0 : -999999 ≤ v) (h1 : v ≤ 999999) :
    (0 ≤ v ∧ ∃ D : List UInt8, itoa v = D ∧ v = val D ∧ 1 ≤ D.length ∧ D.length ≤ 6 ∧ ∀ c ∈ D, isDig c) ∨
    (v < 0 ∧ ∃ D : List UInt8, itoa v = 45 :: D ∧ v = -(val D : Int) ∧ 1 ≤ D.length ∧ D.length ≤ 6 ∧ ∀ c ∈ D, isDig c) := by
  by_cases h : 0 ≤ v
  · left
    obtain ⟨a, b, c⟩ := decDigits_shape v.toNat
    exact ⟨h, decDigits v.toNat, by unfold itoa; rw [if_neg (by omega)], by rw [a]; omega, c, decDigits_len _ (by omega), b⟩
  · right
    obtain ⟨a, b, c⟩ := decDigits_shape v.natAbs
    exact ⟨by omega, decDigits v.natAbs, by unfold itoa; rw [if_pos (by omega)], by rw [a]; omega, c, decDigits_len _ (by omega), b⟩

theorem parse_digits : ∀ (l : List UInt8) (a k : Nat), (∀ c ∈ l, isDig c) → a < 10 ^ k → k + l.length ≤ 18 → parseUint10 a l = .ok (valFrom a l) := by
  intro l
  induction l with
  | nil => intro a k _ _ _; rfl
  | cons c l ih =>
    intro a k h ha hk
    have hc : isDig c := h c (by simp)
    simp only [List.length_cons] at hk
    have hp : 10 ^ (k + 1) ≤ 10 ^ 18 := Nat.pow_le_pow_right (by omega) (by omega)
    have e : 10 ^ (k + 1) = 10 ^ k * 10 := Nat.pow_succ _ _
    have e18 : (10 : Nat) ^ 18 = 1000000000000000000 := by decide
    unfold isDig at hc
    rw [parseUint10, if_pos hc, if_neg (by omega), if_neg (by omega)]
    have := ih (a * 10 + (c.toNat - 48)) (k + 1) (fun x hx => h x (by simp [hx])) (by omega) (by omega)
    rw [this, Nat.mul_comm a 10]
    rfl
theorem parseMag_digits (l : List UInt8) (h : ∀ c ∈ l, isDig c) (h1 : 1 ≤ l.length) (h2 : l.length ≤ 6) : parseMag l = .ok (val l) := by
  unfold parseMag
  rw [if_neg (by intro e; subst e; simp at h1)]
  exact parse_digits l 0 0 h (by decide) (by omega)

/-- What Atoi's function reads from a numeral. -/
theorem atoi_num (v : Int) (h0 : -999999 ≤ v) (h1 : v ≤ 999999) : atoiAll (itoa v) = .ok v := by
  rcases num_shape v h0 h1 with ⟨hv, D, e, hval, hl1, hl2, hd⟩ | ⟨hv, D, e, hval, hl1, hl2, hd⟩
  · rw [e]
    cases D with
    | nil => simp at hl1
    | cons c r =>
      have hc : isDig c := hd c (by simp)
      unfold isDig at hc
      simp only [atoiAll]
      rw [if_neg (by omega), parseMag_digits _ hd hl1 hl2]
      simp only []
      rw [if_neg (by omega), if_neg (by omega), if_neg (by omega), ← hval]
  · rw [e]
    simp only [atoiAll]
    rw [if_pos (by right; rfl), parseMag_digits _ hd hl1 hl2]
    simp only []
    rw [if_neg (by simp), if_neg (by omega), if_pos (by rfl), ← hval]
theorem num_inj (v u : Int) (h0 : -999999 ≤ v) (h1 : v ≤ 999999) (k0 : -999999 ≤ u) (k1 : u ≤ 999999) (h : num v = num u) : v = u := by
  have e : itoa v = itoa u := by
    have := congrArg (fun b : ByteArray => b.data.toList) h
    simpa [num] using this
  have a := atoi_num v h0 h1
  rw [e, atoi_num u k0 k1] at a
  injection a with a
  exact a.symm
theorem num_list (v : Int) (s : ByteArray) : num v = s ↔ itoa v = s.data.toList := by
  constructor
  · intro h; rw [← h]; simp [num]
  · intro h; unfold num; rw [h]

/-- No number of at most six digits has this text. -/
def noNum (s : ByteArray) : Prop := ∀ v : Int, -999999 ≤ v → v ≤ 999999 → num v ≠ s
theorem noNum_of_atoi (s : ByteArray) (h : ∀ v, atoiAll s.data.toList = .ok v → -999999 ≤ v → v ≤ 999999 → num v ≠ s) : noNum s := by
  intro v h0 h1 e
  refine h v ?_ h0 h1 e
  rw [← (num_list v s).1 e]
  exact atoi_num v h0 h1

/-- A text without a sign: when it is no numeral. -/
theorem plain_no (s : ByteArray) (hm : ∀ r, s.data.toList = 45 :: r → r = []) (h : ¬ (1 ≤ s.size ∧ s.size ≤ 6 ∧ (∀ c ∈ s.data.toList, isDig c) ∧ num (val s.data.toList) = s)) : noNum s := by
  intro v h0 h1 e
  have e' := (num_list v s).1 e
  rcases num_shape v h0 h1 with ⟨hv, D, eD, hval, hl1, hl2, hd⟩ | ⟨hv, D, eD, hval, hl1, hl2, hd⟩
  · have hD : D = s.data.toList := eD.symm.trans e'
    subst hD
    exact h ⟨by simpa using hl1, by simpa using hl2, hd, by rw [← hval]; exact e⟩
  · have hr := hm D (e'.symm.trans eD)
    subst hr
    simp at hl1
/-- A text with a sign: when it is no numeral. -/
theorem minus_no (s : ByteArray) (r : List UInt8) (hm : s.data.toList = 45 :: r) (h : ¬ (r.length ≤ 6 ∧ (∀ c ∈ r, isDig c) ∧ num (-(val r : Int)) = s)) : noNum s := by
  intro v h0 h1 e
  have e' := (num_list v s).1 e
  rcases num_shape v h0 h1 with ⟨hv, D, eD, hval, hl1, hl2, hd⟩ | ⟨hv, D, eD, hval, hl1, hl2, hd⟩
  · have hD : D = 45 :: r := eD.symm.trans (e'.trans hm)
    have hc : isDig 45 := hd 45 (by rw [hD]; simp)
    unfold isDig at hc
    simp at hc
  · have hD : 45 :: D = 45 :: r := eD.symm.trans (e'.trans hm)
    injection hD with _ hD
    subst hD
    exact h ⟨hl2, hd, by rw [← hval]; exact e⟩
end Go.Proofs.YtdbkciffdfdfbaaDoor.Plain
