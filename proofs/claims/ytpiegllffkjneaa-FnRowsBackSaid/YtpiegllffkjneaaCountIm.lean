/-
  Plain facts on the number of images, and the contracts of CountImages in the program and in the reference, for every number.
-/
import Derived.Test.YtpiegllffkjneaaSpecImage
import Derived.Test.YtpiegllffkjneaaRowsNum
import Derived.Test.YtpiegllffkjneaaRowsB
import Derived.Test.YtpiegllffkjneaaDistKit
import Derived.Deep.RegionHeld3
namespace Go.Proofs.Ytpiegllffkjneaa.Plain
theorem len_sub {α : Type} [DecidableEq α] : ∀ (A B : List α), A.Nodup → (∀ x, x ∈ A → x ∈ B) → A.length ≤ B.length
  | [], _, _, _ => Nat.zero_le _
  | a :: A, B, hn, h => by
    have ha : a ∈ B := h a (by simp)
    obtain ⟨hna, hnA⟩ := List.nodup_cons.1 hn
    have ih := len_sub A (B.erase a) hnA fun x hx => (List.mem_erase_of_ne (fun (e : x = a) => hna (by rw [← e]; exact hx))).2 (h x (by simp [hx]))
    have hl := List.length_erase_of_mem ha
    have hp := List.length_pos_of_mem ha
    simp only [List.length_cons]; omega
theorem len_same {α : Type} [DecidableEq α] {A B : List α} (hA : A.Nodup) (hB : B.Nodup) (h : ∀ x, x ∈ A ↔ x ∈ B) : A.length = B.length :=
  Nat.le_antisymm (len_sub A B hA fun x hx => (h x).1 hx) (len_sub B A hB fun x hx => (h x).2 hx)
/-- The greatest of the first numbers. -/
def mx4 (f : Nat → Int) : Nat → Int
  | 0 => f 0
  | k + 1 => max (mx4 f k) (f (k + 1))
theorem mx4_le (f : Nat → Int) (m : Int) : ∀ k, mx4 f k ≤ m ↔ ∀ i, i ≤ k → f i ≤ m
  | 0 => ⟨fun h i hi => by rw [Nat.le_zero.1 hi]; exact h, fun h => h 0 (Nat.le_refl _)⟩
  | k + 1 => by
    have ih := mx4_le f m k
    unfold mx4
    constructor
    · intro h i hi
      rcases (by omega : i ≤ k ∨ i = k + 1) with q | rfl
      · exact ih.1 (by omega) i q
      · omega
    · intro h
      have h1 := ih.2 fun i hi => h i (by omega)
      have h2 := h (k + 1) (Nat.le_refl _)
      omega
theorem mx4_congr {f g : Nat → Int} : ∀ k, (∀ i, i ≤ k → f i = g i) → mx4 f k = mx4 g k
  | 0, h => h 0 (Nat.le_refl _)
  | k + 1, h => by unfold mx4; rw [mx4_congr k (fun i hi => h i (by omega)), h (k + 1) (Nat.le_refl _)]
theorem dig_at (n b i : Nat) : dig n b 0 i = ((n / b ^ (3 - i) % b : Nat) : Int) := by unfold dig; rw [if_pos (Nat.zero_le _)]
theorem dig_bd (n : Nat) {b : Nat} (hb : 1 ≤ b) (i : Nat) : 0 ≤ dig n b 0 i ∧ dig n b 0 i ≤ (b : Int) - 1 := by
  rw [dig_at]; have := Nat.mod_lt (n / b ^ (3 - i)) (show 0 < b by omega); omega
theorem dig_vd (n : Nat) {b : Nat} (hb : 1 ≤ b) (hb2 : b ≤ 18) : VdRow (dig n b 0) := fun i _ => by have := dig_bd n hb i; omega
theorem dig_inj {b k j : Nat} (hb : 1 ≤ b) (hb2 : b ≤ 7) (hk : k < b ^ 4) (hj : j < b ^ 4) (h : ∀ i, i < 4 → dig k b 0 i = dig j b 0 i) : k = j := by
  have h0 := h 0 (by omega); have h1 := h 1 (by omega); have h2 := h 2 (by omega); have h3 := h 3 (by omega)
  rw [dig_at, dig_at] at h0 h1 h2 h3
  rcases (by omega : b = 1 ∨ b = 2 ∨ b = 3 ∨ b = 4 ∨ b = 5 ∨ b = 6 ∨ b = 7) with rfl | rfl | rfl | rfl | rfl | rfl | rfl <;> simp only [Nat.reducePow, Nat.reduceSub] at h0 h1 h2 h3 hk hj <;> omega
theorem dig_has {b : Nat} (hb : 1 ≤ b) (hb2 : b ≤ 7) (f : Nat → Int) (hf : ∀ i, i < 4 → 0 ≤ f i ∧ f i ≤ (b : Int) - 1) : ∃ k, k < b ^ 4 ∧ ∀ i, i < 4 → dig k b 0 i = f i := by
  obtain ⟨a0, a1⟩ := hf 0 (by omega); obtain ⟨b0, b1⟩ := hf 1 (by omega); obtain ⟨c0, c1⟩ := hf 2 (by omega); obtain ⟨d0, d1⟩ := hf 3 (by omega)
  obtain ⟨x0, e0⟩ := Int.eq_ofNat_of_zero_le a0
  obtain ⟨x1, e1⟩ := Int.eq_ofNat_of_zero_le b0
  obtain ⟨x2, e2⟩ := Int.eq_ofNat_of_zero_le c0
  obtain ⟨x3, e3⟩ := Int.eq_ofNat_of_zero_le d0
  rw [e0] at a1; rw [e1] at b1; rw [e2] at c1; rw [e3] at d1
  refine ⟨x0 * b ^ 3 + x1 * b ^ 2 + x2 * b + x3, ?_, fun i hi => ?_⟩
  · rcases (by omega : b = 1 ∨ b = 2 ∨ b = 3 ∨ b = 4 ∨ b = 5 ∨ b = 6 ∨ b = 7) with rfl | rfl | rfl | rfl | rfl | rfl | rfl <;> simp only [Nat.reducePow] <;> omega
  · rw [dig_at]
    rcases (by omega : i = 0 ∨ i = 1 ∨ i = 2 ∨ i = 3) with rfl | rfl | rfl | rfl
    · rw [e0]
      rcases (by omega : b = 1 ∨ b = 2 ∨ b = 3 ∨ b = 4 ∨ b = 5 ∨ b = 6 ∨ b = 7) with rfl | rfl | rfl | rfl | rfl | rfl | rfl <;> simp only [Nat.reducePow, Nat.reduceSub] <;> omega
    · rw [e1]
      rcases (by omega : b = 1 ∨ b = 2 ∨ b = 3 ∨ b = 4 ∨ b = 5 ∨ b = 6 ∨ b = 7) with rfl | rfl | rfl | rfl | rfl | rfl | rfl <;> simp only [Nat.reducePow, Nat.reduceSub] <;> omega
    · rw [e2]
      rcases (by omega : b = 1 ∨ b = 2 ∨ b = 3 ∨ b = 4 ∨ b = 5 ∨ b = 6 ∨ b = 7) with rfl | rfl | rfl | rfl | rfl | rfl | rfl <;> simp only [Nat.reducePow, Nat.reduceSub] <;> omega
    · rw [e3]
      rcases (by omega : b = 1 ∨ b = 2 ∨ b = 3 ∨ b = 4 ∨ b = 5 ∨ b = 6 ∨ b = 7) with rfl | rfl | rfl | rfl | rfl | rfl | rfl <;> simp only [Nat.reducePow, Nat.reduceSub] <;> omega
/-- What comes out is no less than what it came of. -/
theorem ex_le {o i : List Int} (h : Ex o i) : ∀ x, x ∈ i → ∃ z, z ∈ o ∧ x ≤ z := by
  induction h with
  | nil => intro x hx; cases hx
  | one t _ ih =>
    intro x hx
    rcases List.mem_append.1 hx with q | q
    · obtain ⟨z, h1, h2⟩ := ih x q; exact ⟨z, by simp [h1], h2⟩
    · obtain rfl : x = t := by simpa using q
      exact ⟨x, by simp, Int.le_refl _⟩
  | two t _ ih =>
    intro x hx
    rcases List.mem_append.1 hx with q | q
    · obtain ⟨z, h1, h2⟩ := ih x q; exact ⟨z, by simp [h1], h2⟩
    · obtain rfl : x = t := by simpa using q
      exact ⟨x + 1, by simp, by omega⟩
theorem cmpr_has {f : Nat → Int} : ∀ k i, i < k → f i ≠ 0 → f i ∈ cmpr f k
  | 0, i, h, _ => by omega
  | k + 1, i, h, hn => by
    unfold cmpr
    split
    · rename_i h0
      have : i ≠ k := fun e => hn (e ▸ h0)
      exact cmpr_has k i (by omega) hn
    · rcases (by omega : i < k ∨ i = k) with q | rfl
      · exact List.mem_append.2 (Or.inl (cmpr_has k i q hn))
      · simp
/-- The images among the first k rows of a base. -/
noncomputable def imgP (most : Int) (b : Nat) : Nat → List (List Int)
  | 0 => []
  | k + 1 => if mx4 (slid (dig k b 0) 4).row 3 ≤ most then addS (imgP most b k) (cl 4 (slid (dig k b 0) 4).row) else imgP most b k
/-- How many of the first k rows of a base are images. -/
noncomputable def cntS (b : Nat) : Nat → Nat
  | 0 => 0
  | k + 1 => if FlP (dig k b 0) ∧ 0 < (befS (dig k b 0) 16).length then cntS b k + 1 else cntS b k
theorem cntS_le (b : Nat) : ∀ k, cntS b k ≤ k
  | 0 => Nat.le_refl _
  | k + 1 => by have := cntS_le b k; unfold cntS; split <;> omega
theorem imgP_nodup (most : Int) (b : Nat) : ∀ k, (imgP most b k).Nodup
  | 0 => List.nodup_nil
  | k + 1 => by
    unfold imgP
    split
    · exact addS_nodup (imgP_nodup most b k) _
    · exact imgP_nodup most b k
theorem imgP_mem (most : Int) (b : Nat) : ∀ n x, x ∈ imgP most b n ↔ ∃ k, k < n ∧ mx4 (slid (dig k b 0) 4).row 3 ≤ most ∧ x = cl 4 (slid (dig k b 0) 4).row
  | 0, x => by simp [imgP]
  | n + 1, x => by
    have ih := imgP_mem most b n x
    unfold imgP
    split
    · rename_i h
      rw [addS_mem, ih]
      constructor
      · rintro (⟨k, hk, e⟩ | e)
        · exact ⟨k, by omega, e⟩
        · exact ⟨n, by omega, h, e⟩
      · rintro ⟨k, hk, e1, e2⟩
        rcases (by omega : k < n ∨ k = n) with q | rfl
        · exact Or.inl ⟨k, q, e1, e2⟩
        · exact Or.inr e2
    · rename_i h
      rw [ih]
      constructor
      · rintro ⟨k, hk, e⟩; exact ⟨k, by omega, e⟩
      · rintro ⟨k, hk, e1, e2⟩
        rcases (by omega : k < n ∨ k = n) with q | rfl
        · exact ⟨k, q, e1, e2⟩
        · exact absurd e1 h
noncomputable def imgL (b : Nat) : Nat → List (List Int)
  | 0 => []
  | k + 1 => if FlP (dig k b 0) ∧ 0 < (befS (dig k b 0) 16).length then imgL b k ++ [cl 4 (dig k b 0)] else imgL b k
theorem imgL_len (b : Nat) : ∀ k, (imgL b k).length = cntS b k
  | 0 => rfl
  | k + 1 => by have := imgL_len b k; unfold imgL cntS; split <;> simp [this]
theorem imgL_mem (b : Nat) : ∀ n x, x ∈ imgL b n ↔ ∃ k, k < n ∧ (FlP (dig k b 0) ∧ 0 < (befS (dig k b 0) 16).length) ∧ x = cl 4 (dig k b 0)
  | 0, x => by simp [imgL]
  | n + 1, x => by
    have ih := imgL_mem b n x
    unfold imgL
    split
    · rename_i h
      rw [List.mem_append, ih]
      constructor
      · rintro (⟨k, hk, e⟩ | e)
        · exact ⟨k, by omega, e⟩
        · exact ⟨n, by omega, h, by simpa using e⟩
      · rintro ⟨k, hk, e1, e2⟩
        rcases (by omega : k < n ∨ k = n) with q | rfl
        · exact Or.inl ⟨k, q, e1, e2⟩
        · exact Or.inr (by simpa using e2)
    · rename_i h
      rw [ih]
      constructor
      · rintro ⟨k, hk, e⟩; exact ⟨k, by omega, e⟩
      · rintro ⟨k, hk, e1, e2⟩
        rcases (by omega : k < n ∨ k = n) with q | rfl
        · exact ⟨k, q, e1, e2⟩
        · exact absurd e1 h
theorem imgL_nodup {b : Nat} (hb : 1 ≤ b) (hb2 : b ≤ 7) : ∀ n, n ≤ b ^ 4 → (imgL b n).Nodup
  | 0, _ => List.nodup_nil
  | n + 1, hn => by
    have ih := imgL_nodup hb hb2 n (by omega)
    unfold imgL
    split
    · rw [List.nodup_append]
      refine ⟨ih, by simp, fun a ha c hc e => ?_⟩
      obtain rfl : c = _ := by simpa using hc
      obtain ⟨k, hk, _, e2⟩ := (imgL_mem b n a).1 ha
      rw [e] at e2
      have := dig_inj hb hb2 (by omega) (by omega) (fun i hi => cl_inj.1 e2 i hi)
      omega
    · exact ih
theorem img_cnt {m : Nat} (hm : m ≤ 6) : (imgP (m : Int) (m + 1) ((m + 1) ^ 4)).length = cntS (m + 1) ((m + 1) ^ 4) := by
  have hb : 1 ≤ m + 1 := by omega
  have hb2 : m + 1 ≤ 7 := by omega
  have hv : ∀ k, VdRow (dig k (m + 1) 0) := fun k => dig_vd k hb (by omega)
  rw [← imgL_len]
  refine len_same (imgP_nodup _ _ _) (imgL_nodup hb hb2 _ (Nat.le_refl _)) fun x => ?_
  rw [imgP_mem, imgL_mem]
  constructor
  · rintro ⟨k, hk, hmx, rfl⟩
    have hs := slid_vd (hv k)
    have hle := (mx4_le _ _ _).1 hmx
    obtain ⟨j, hj, hd⟩ := dig_has hb hb2 (slid (dig k (m + 1) 0) 4).row (fun i hi => ⟨(hs i hi).1, by have := hle i (by omega); omega⟩)
    refine ⟨j, hj, ⟨flP_congr (fun i hi => (hd i hi).symm) (slid_flush (hv k)), ?_⟩, cl_inj.2 fun i hi => (hd i hi).symm⟩
    refine List.length_pos_of_mem (a := cl 4 (dig k (m + 1) 0)) ((befS_iff (hv j) _).2 ⟨cl_len _ _, fun i hi => by rw [fn_cl _ i hi]; exact hv k i hi, fun i hi => ?_⟩)
    rw [slid_congr (g := dig k (m + 1) 0) 4 (fn_cl _), hd i hi]
  · rintro ⟨k, hk, ⟨_, hp⟩, rfl⟩
    obtain ⟨y, hy⟩ := List.exists_mem_of_length_pos hp
    have hB := (befS_iff (hv k) y).1 hy
    obtain ⟨h1, h2, h3⟩ := hB
    have hex := (bef_ex ⟨h1, h2, h3⟩).1
    have hyb : ∀ i, i < 4 → 0 ≤ fn y i ∧ fn y i ≤ ((m + 1 : Nat) : Int) - 1 := fun i hi => by
      refine ⟨(h2 i hi).1, ?_⟩
      by_cases h0 : fn y i = 0
      · rw [h0]; omega
      · obtain ⟨z, hz, hle⟩ := ex_le hex _ (cmpr_has 4 i hi h0)
        obtain ⟨c, _, e, _⟩ := cmpr_mem 4 z hz
        have := dig_bd k hb c
        omega
    obtain ⟨j, hj, hd⟩ := dig_has hb hb2 (fn y) hyb
    have hsl : slid (dig j (m + 1) 0) 4 = slid (fn y) 4 := slid_congr 4 hd
    refine ⟨j, hj, ?_, ?_⟩
    · rw [hsl, mx4_le]
      intro i hi
      rw [h3 i (by omega)]
      have := dig_bd k hb i
      omega
    · rw [hsl]; exact cl_inj.2 fun i hi => (h3 i hi).symm
def CiOk (n : Int) : Prop := 0 ≤ n ∧ n ≤ 6
instance (n : Int) : Decidable (CiOk n) := by unfold CiOk; infer_instance
/-- What CountImages returns. -/
def ciO (n : Int) : Bool := decide (CiOk n)
noncomputable def ciR (n : Int) : Int := if CiOk n then (cntS (n.toNat + 1) ((n.toNat + 1) ^ 4) : Int) else 0
theorem ci_yes {n : Int} (h : CiOk n) : ciO n = true ∧ ciR n = (cntS (n.toNat + 1) ((n.toNat + 1) ^ 4) : Int) := by simp [ciO, ciR, h]
theorem ci_no {n : Int} (h : ¬ CiOk n) : ciO n = false ∧ ciR n = 0 := by simp [ciO, ciR, h]
theorem pow_four (b : Nat) : b * b * b * b = b ^ 4 := by rw [Nat.pow_succ, Nat.pow_succ, Nat.pow_succ, Nat.pow_succ, Nat.pow_zero, Nat.one_mul]
theorem pow_le {b : Nat} (h : b ≤ 7) : b ^ 4 ≤ 2401 ∧ b * b ≤ 49 ∧ b * b * b ≤ 343 := by
  rcases (by omega : b = 0 ∨ b = 1 ∨ b = 2 ∨ b = 3 ∨ b = 4 ∨ b = 5 ∨ b = 6 ∨ b = 7) with rfl | rfl | rfl | rfl | rfl | rfl | rfl | rfl <;> decide
end Go.Proofs.Ytpiegllffkjneaa.Plain
namespace Go.Proofs.Ytpiegllffkjneaa
open Go.RowKit Plain
attribute [local go_sem] store_new
set_option linter.unusedVariables false
set_option linter.unusedSimpArgs false
set_option maxHeartbeats 400000 in
/-- slices.Max of a row of four. -/
theorem max4_any (g cap : Nat) (f : Nat → Int) (w : World) (h : ∀ j, j < 4 → w.cell? ⟨g, j, none⟩ = some (.int .i64 (f j))) :
    Calls Try.prog 144 #[.slice (some ⟨g, 0, none⟩) 4 cap] w fun e w' => e = .returned (.int .i64 (mx4 f 3)) ∧ w = w' := by
  have H := Lib.hid h
  have c0 := h 0 (by omega)
  have M0 : Hid (mx4 f 0 = f 0) := rfl
  clear h
  rw [← M0.out] at c0
  go_enter Try.func144, Try.ntmps144
  go_wp2_with fail
  clear c0
  go_loopg [3, 4] 3 (fun gk s3 s4 wr => ∃ k : Nat, k + gk = 3 ∧ s4 = .int .i64 ((k + 1 : Nat) : Int) ∧ s3 = .int .i64 (mx4 f k) ∧ w = wr)
  case atStart => exact ⟨0, by omega, rfl, rfl, rfl⟩
  case round =>
    obtain ⟨k, hkg, rfl, rfl, rfl⟩ := hrel
    cases gk with
    | zero =>
      obtain rfl : k = 3 := by omega
      go_wp2_with fail
      go_ret
      exact ⟨rfl, rfl⟩
    | succ gk2 =>
      have hk4 : (((k + 1 : Nat)) : Int) < 4 := by omega
      have hk0 : (0 : Int) ≤ ((k + 1 : Nat) : Int) := by omega
      have c1 := H.out (k + 1) (by omega)
      have Y : Hid (mx4 f (k + 1) = max (mx4 f k) (f (k + 1))) := rfl
      generalize hk1 : k + 1 = j at *
      generalize f j = y at *
      generalize hx : mx4 f k = x at *
      have HJ := Lib.hid hk1
      clear hk1 hx
      go_wp2_with fail
      go_roundg gk2
      case rel => exact ⟨j, by have := HJ.out; omega, by go_num, by rw [Y.out], rfl⟩
      case measure => omega

set_option maxHeartbeats 2000000 in
set_option maxRecDepth 20000 in
theorem implCountIm_any (n : Int) (w : World) :
    Calls Try.prog 74 #[.int .i64 n] w fun e w' => e = .returned (.tuple #[.int .i64 (ciR n), .bool (ciO n)]) ∧ Below w.heap.size w w' := by
  have hmm := @run_makeMap Try.prog
  by_cases hC : CiOk n
  · obtain ⟨y1, y2⟩ := ci_yes hC
    rw [y1, y2]
    obtain ⟨h0, h1⟩ := hC
    obtain ⟨m, rfl⟩ := Int.eq_ofNat_of_zero_le h0
    rw [Int.toNat_natCast]
    have hm : m ≤ 6 := by omega
    rw [← img_cnt hm]
    clear y1 y2
    have d0 : decide ((m : Int) < 0) = false := by simp
    have d6 : decide ((6 : Int) < (m : Int)) = false := by simp; omega
    have d6' : ¬ ((6 : Int) < (m : Int)) := by omega
    have d0' : ¬ ((m : Int) < 0) := by omega
    generalize hB : m + 1 = B at *
    have hb1 : 1 ≤ B := by omega
    have hb7 : B ≤ 7 := by omega
    obtain ⟨p4, p2, p3⟩ := pow_le hb7
    have e1 : (m : Int) + 1 = (B : Int) := by omega
    have e1w : IntKind.i64.wrap ((m : Int) + 1) = (B : Int) := by rw [e1]; exact IntWalk.i64_in _ (by omega)
    have e2 : IntKind.i64.wrap ((B : Int) * (B : Int)) = ((B * B : Nat) : Int) := by rw [← Int.natCast_mul]; exact IntWalk.i64_in _ (by omega)
    have e3 : IntKind.i64.wrap (((B * B : Nat) : Int) * (B : Int)) = ((B * B * B : Nat) : Int) := by rw [← Int.natCast_mul]; exact IntWalk.i64_in _ (by omega)
    have e4 : IntKind.i64.wrap (((B * B * B : Nat) : Int) * (B : Int)) = ((B ^ 4 : Nat) : Int) := by rw [← Int.natCast_mul, pow_four]; exact IntWalk.i64_in _ (by omega)
    have HBE := Lib.hid hB
    clear hB
    generalize hNN : B ^ 4 = NN at *
    have HNN := Lib.hid hNN
    clear hNN
    generalize B * B * B = B3 at *
    generalize B * B = B2 at *
    have HSn : Hid (Seen Try.prog 24 4 4 (w.alloc (.map #[] 0)) w.heap.size 0 (imgP (m : Int) B 0)) := Seen.made _ _ _ _ _
    have HB : Hid (Below w.heap.size w (w.alloc (.map #[] 0))) := (Below.refl w.heap.size w).alloc (Nat.le_refl _) _
    go_enter Try.func74, Try.ntmps74
    go_wp2_with fail
    clear e1 e1w e2 e3 e4 d0 d6 d6' d0' hmm
    generalize w.alloc (.map #[] 0) = w1 at *
    go_loopg [26] NN (fun gk s26 wr => ∃ k mm : Nat, k + gk = NN ∧ s26 = .int .i64 k ∧ mm ≤ k ∧ Hid (Seen Try.prog 24 4 4 wr w.heap.size mm (imgP (m : Int) B k)) ∧ Hid (Below w.heap.size w wr))
    case atStart => exact ⟨0, 0, by omega, rfl, Nat.le_refl _, HSn, HB⟩
    case round =>
      clear HSn HB
      obtain ⟨k, mm, hkg, rfl, hmk, HSn, HB⟩ := hrel
      cases gk with
      | zero =>
        have hk : ¬ ((k : Int) < (NN : Int)) := by omega
        obtain rfl : k = NN := by omega
        have hL := fun ty => HSn.out.len (t := 150) Try.underlying150 ty
        go_wp2_with fail
        go_ret2
        exact ⟨rfl, HB.out⟩
      | succ gk2 =>
        have hk4 : (k : Int) < (NN : Int) := by omega
        have HVR := Lib.hid (dig_vd k hb1 (by omega))
        go_wp2_with fail
        refine (digitsOf_any k B _ (by omega) hb1 (by omega)).mono ?_
        rintro e w2 ⟨rfl, hb⟩
        have HSn : Hid (Seen Try.prog 24 4 4 w2 w.heap.size mm (imgP (m : Int) B k)) := HSn.out.below hb HSn.out.lt
        have HB : Hid (Below w.heap.size w w2) := HB.out.trans (hb.mono HB.out.size)
        clear hb
        go_wp2_with fail
        refine (slideLine_any (dig k B 0) _ HVR.out).mono ?_
        rintro e w3 ⟨rfl, hb⟩
        have HSn : Hid (Seen Try.prog 24 4 4 w3 w.heap.size mm (imgP (m : Int) B k)) := HSn.out.below hb HSn.out.lt
        have HB : Hid (Below w.heap.size w w3) := HB.out.trans (hb.mono HB.out.size)
        clear hb
        have HSV := Lib.hid (slid_vd HVR.out)
        have HYT : Hid (mx4 (slid (dig k B 0) 4).row 3 ≤ (m : Int) → imgP (m : Int) B (k + 1) = addS (imgP (m : Int) B k) (cl 4 (slid (dig k B 0) 4).row)) := fun q => by rw [imgP, if_pos q]
        have HYF : Hid (¬ mx4 (slid (dig k B 0) 4).row 3 ≤ (m : Int) → imgP (m : Int) B (k + 1) = imgP (m : Int) B k) := fun q => by rw [imgP, if_neg q]
        generalize hR9 : (slid (dig k B 0) 4).row = R9 at *
        clear hR9
        have HKY := Lib.hid (keyR (wf_row HSV.out))
        have z4 := zero4
        have K7 := Blk.new w3 4 R9 24
        have HSn : Hid (Seen Try.prog 24 4 4 (w3.alloc (.cells (mk 4 R9) 24)) w.heap.size mm (imgP (m : Int) B k)) := HSn.out.alloc _
        have HB : Hid (Below w.heap.size w (w3.alloc (.cells (mk 4 R9) 24))) := HB.out.alloc HB.out.size _
        go_wp2_with fail
        refine (max4_any _ _ R9 _ (fun j hj => K7.cell hj)).mono ?_
        rintro e w' ⟨rfl, rfl⟩
        by_cases hx : mx4 R9 3 ≤ (m : Int)
        · have Y := Lib.hid (HYT.out hx)
          generalize mx4 R9 3 = M at *
          clear HYT HYF
          go_wp2_with (first | ((with_reducible show wpList _ _ _ (Oper.mk _ (Op.load 24 _) _ _ _ _ :: _) _ _); refine loadR (K7) rfl rfl rfl ?_) | (at_mapUpdate; refine wpList_put_seen _ rfl _ _ _ 150 rfl 24 4 keyedR Try.underlying150 Try.underlying4 w.heap.size mm 4 (imgP (m : Int) B k) R9 rfl HSn.out (by unfold maxLen; omega) rfl rfl HKY.out ?_))
          intro w6 HS6 hg6
          have HB : Hid (Below w.heap.size w w6) := HB.out.grown hg6 HB.out.size (fun j hj => by cases hj; exact Nat.le_refl _)
          have HSn : Hid (Seen Try.prog 24 4 4 w6 w.heap.size (mm + 1) (imgP (m : Int) B (k + 1))) := by show Seen _ _ _ _ _ _ _ _; rw [Y.out]; exact HS6
          clear hg6 HS6
          go_wp2_with fail
          go_roundg gk2
          case rel => exact ⟨k + 1, mm + 1, by omega, by go_num, by omega, HSn, HB⟩
          case measure => omega
        · have Y := Lib.hid (HYF.out (by omega))
          generalize mx4 R9 3 = M at *
          clear HYT HYF
          go_wp2_with fail
          go_roundg gk2
          case rel => exact ⟨k + 1, mm, by omega, by go_num, by omega, by rw [Y.out]; exact HSn, HB⟩
          case measure => omega
  · obtain ⟨y1, y2⟩ := ci_no hC
    rw [y1, y2]
    clear y1 y2 hmm
    unfold CiOk at hC
    by_cases h0 : n < 0
    · clear hC
      go_enter Try.func74, Try.ntmps74
      go_wp2_with fail
      go_ret2
      exact ⟨rfl, Below.refl _ _⟩
    · have h6 : 6 < n := by omega
      clear hC
      go_enter Try.func74, Try.ntmps74
      go_wp2_with fail
      go_ret2
      exact ⟨rfl, Below.refl _ _⟩
end Go.Proofs.Ytpiegllffkjneaa
