/-
  Plain facts on decimal numerals (Lib.itoa): by the last digit, and their length. No program stands in this text.
-/
import Derived.Lib.ItoaNum
namespace Go.Proofs.YtdbkciffdfdfbaaDoor.Plain
open Go.Lib

/-- The numeral of a number, as bytes. -/
def num (n : Int) : ByteArray := ⟨(itoa n).toArray⟩

theorem itoa_digit (n : Int) (h0 : 0 ≤ n) (h1 : n < 10) : itoa n = [UInt8.ofNat (48 + n.toNat)] := by
  unfold itoa; rw [if_neg (by omega), decDigits_one (by omega)]
theorem itoa_pos (n : Int) (h : 10 ≤ n) : itoa n = itoa (n / 10) ++ itoa (n % 10) := by
  rw [itoa_digit (n % 10) (by omega) (by omega)]
  unfold itoa
  rw [if_neg (by omega), if_neg (by omega), decDigits, dif_neg (by omega)]
  rw [show (n / 10).toNat = n.toNat / 10 by omega, show (n % 10).toNat = n.toNat % 10 by omega]
theorem itoa_neg (n : Int) (h : 0 < n) : itoa (-n) = 45 :: itoa n := by
  unfold itoa; rw [if_pos (by omega), if_neg (by omega), show (-n).natAbs = n.toNat by omega]
theorem itoa_low (n : Int) (h : 10 ≤ n) : itoa (-n) = itoa (-(n / 10)) ++ itoa (n % 10) := by
  rw [itoa_neg n (by omega), itoa_neg (n / 10) (by omega), itoa_pos n h, List.cons_append]
theorem digit_lit (n : Nat) (h : n < 10) : (⟨(itoa n).toArray⟩ : ByteArray) = ⟨#[UInt8.ofNat (48 + n)]⟩ := by
  rw [itoa_digit n (by omega) (by omega)]; simp

theorem nDigits_le : ∀ (k u : Nat), u < 10 ^ (k + 1) → nDigits u ≤ k + 1
  | 0, u, h => by rw [nDigits_small (by simpa using h)]; omega
  | k + 1, u, h => by
    by_cases hu : u < 10
    · rw [nDigits_small hu]; omega
    · rw [nDigits_big hu]
      have := nDigits_le k (u / 10) (by rw [Nat.pow_succ] at h; omega)
      omega
theorem num_size (n : Int) (h0 : -10000000 < n) (h1 : n < 10000000) : (num n).size ≤ 8 := by
  have e : (num n).size = (itoa n).length := rfl
  rw [e]
  unfold itoa
  split
  · have := nDigits_le 6 n.natAbs (by omega)
    rw [List.length_cons, decDigits_length]; omega
  · have := nDigits_le 6 n.toNat (by omega)
    rw [decDigits_length]; omega
theorem num_pos_app (n : Int) (h : 10 ≤ n) : num n = num (n / 10) ++ num (n % 10) := by
  unfold num; rw [itoa_pos n h]; simp [ByteArray.ext_iff]
theorem num_neg_app (n : Int) (h : 0 < n) : num (-n) = (⟨#[45]⟩ : ByteArray) ++ num n := by
  unfold num; rw [itoa_neg n h]; simp [ByteArray.ext_iff]
theorem num_low_app (n : Int) (h : 10 ≤ n) : num (-n) = num (-(n / 10)) ++ num (n % 10) := by
  unfold num; rw [itoa_low n h]; simp [ByteArray.ext_iff]

end Go.Proofs.YtdbkciffdfdfbaaDoor.Plain
