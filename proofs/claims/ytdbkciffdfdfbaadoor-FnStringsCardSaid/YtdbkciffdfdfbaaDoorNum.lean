/-
  The contract of spec.l1Num: for every number between -1000000 and 1000000 it gives the decimal numeral and leaves the memory alone.
-/
import Derived.Test.YtdbkciffdfdfbaaDoorKit
import Derived.Test.YtdbkciffdfdfbaaDoorNumPlain
import Derived.Deep.QuietTactic
import Derived.BigQuiet
import Derived.IntWalk
namespace Go.Proofs.YtdbkciffdfdfbaaDoor
open Go.RowKit Plain Go.Lib

theorem l1Num_digit (n : Nat) (w : World) (h : n < 10) :
    Calls Tryd.prog 25 #[.int .i64 n] w fun e w' => e = .returned (.string (num n)) ∧ ∃ k, w' = w.drewN k := by
  unfold num
  rw [digit_lit n h]
  rcases (by omega : n = 0 ∨ n = 1 ∨ n = 2 ∨ n = 3 ∨ n = 4 ∨ n = 5 ∨ n = 6 ∨ n = 7 ∨ n = 8 ∨ n = 9) with rfl | rfl | rfl | rfl | rfl | rfl | rfl | rfl | rfl | rfl <;>
  · go_enter Tryd.func25, Tryd.ntmps25
    go_wp2
    go_ret
    exact ⟨rfl, 0, rfl⟩

/-- spec.l1In: whether a number lies within two bounds. -/
theorem l1In_yes (x a b : Int) (w : World) (h0 : a ≤ x) (h1 : x ≤ b) :
    Calls Tryd.prog 24 #[.int .i64 x, .int .i64 a, .int .i64 b] w fun e w' => e = .returned (.bool true) ∧ w = w' := by
  go_enter Tryd.func24, Tryd.ntmps24
  go_wp2
  go_ret
  exact ⟨rfl, rfl⟩
theorem l1In_no (x a b : Int) (w : World) (h : x < a ∨ b < x) :
    Calls Tryd.prog 24 #[.int .i64 x, .int .i64 a, .int .i64 b] w fun e w' => e = .returned (.bool false) ∧ w = w' := by
  by_cases h0 : a ≤ x
  · have h1 : b < x := by omega
    have h2 : decide (x ≤ b) = false := by simp; omega
    clear h
    go_enter Tryd.func24, Tryd.ntmps24
    go_wp2
    go_ret
    exact ⟨rfl, rfl⟩
  · have h1 : x < a := by omega
    have h2 : decide (a ≤ x) = false := by simp; omega
    clear h h0
    go_enter Tryd.func24, Tryd.ntmps24
    go_wp2
    go_ret
    exact ⟨rfl, rfl⟩

/-- What the contract says of one number. -/
def NumOk (n : Int) : Prop := ∀ w : World, Calls Tryd.prog 25 #[.int .i64 n] w fun e w' => e = .returned (.string (num n)) ∧ ∃ k, w' = w.drewN k

theorem digit_ok (n : Int) (h0 : 0 ≤ n) (h1 : n < 10) : NumOk n := by
  intro w
  obtain ⟨m, rfl⟩ := Int.eq_ofNat_of_zero_le h0
  exact l1Num_digit m w (by omega)

theorem digit_slice (n : Int) (h0 : 0 ≤ n) (h1 : n < 10) : (⟨#[48, 49, 50, 51, 52, 53, 54, 55, 56, 57]⟩ : ByteArray).extract n.toNat (n + 1).toNat = num n := by
  rcases (by omega : n = 0 ∨ n = 1 ∨ n = 2 ∨ n = 3 ∨ n = 4 ∨ n = 5 ∨ n = 6 ∨ n = 7 ∨ n = 8 ∨ n = 9) with rfl | rfl | rfl | rfl | rfl | rfl | rfl | rfl | rfl | rfl <;> (unfold num; rw [itoa_digit _ (by omega) (by omega)]; rfl)

theorem pos_step (n : Int) (h0 : 10 ≤ n) (h1 : n ≤ 1000000) (ih : NumOk (n / 10)) : NumOk n := by
  intro w
  obtain ⟨q, hq⟩ : ∃ q, q = n / 10 := ⟨_, rfl⟩
  obtain ⟨d, hd⟩ : ∃ d, d = n % 10 := ⟨_, rfl⟩
  have e1 : IntKind.i64.wrap (n.tdiv 10) = q := by rw [Int.tdiv_eq_ediv_of_nonneg (by omega), IntWalk.i64_in _ (by omega)]; omega
  have e2 : n.tmod 10 = d := by rw [Int.tmod_eq_emod_of_nonneg (by omega)]; omega
  have e3 : IntKind.i64.wrap d = d := IntWalk.i64_in _ (by omega)
  have e4 : IntKind.i64.wrap (d + 1) = d + 1 := IntWalk.i64_in _ (by omega)
  have d0 : 0 ≤ d := by omega
  have d1 : d < 10 := by omega
  have hsl : ∀ W, (Instr.slice 9 (.string ⟨#[48, 49, 50, 51, 52, 53, 54, 55, 56, 57]⟩) (some (.int .i64 d)) (some (.int .i64 (d + 1))) none).run Tryd.prog W = .ok (.string (num d)) W := fun W => by
    rw [run_slice_string W 9 _ .i64 .i64 d (d + 1) Tryd.underlying9 d0 (by omega) (by show d + 1 ≤ 10; omega), digit_slice d d0 d1]
  have HN : Hid (num n = num q ++ num d) := by
    show num n = num q ++ num d
    rw [num_pos_app n h0, hq, hd]
  have sq : (num q).size ≤ 8 := num_size q (by omega) (by omega)
  have sd : (num d).size ≤ 8 := num_size d (by omega) (by omega)
  have IH : Hid (NumOk q) := by rw [hq]; exact ih
  clear ih hq hd
  go_enter Tryd.func25, Tryd.ntmps25
  go_wp2_with fail
  go_quiet ((go_at_call 25; exact Calls.quiet_of (IH.out _)))
  go_wp2_with fail
  go_ret
  exact ⟨by rw [HN.out]; rfl, _, rfl⟩

theorem pos_ok (k : Nat) : ∀ n : Int, 0 ≤ n → n ≤ 1000000 → n.toNat ≤ k → NumOk n := by
  induction k with
  | zero => intro n a b c; exact digit_ok n a (by omega)
  | succ k ih =>
    intro n a b c
    by_cases h : n < 10
    · exact digit_ok n a h
    · exact pos_step n (by omega) b (ih (n / 10) (by omega) (by omega) (by omega))

theorem neg_digit (m : Int) (h0 : 0 < m) (h1 : m < 10) : NumOk (-m) := by
  intro w
  have IH : Hid (NumOk m) := digit_ok m (by omega) h1
  have HN : Hid (num (-m) = (⟨#[45]⟩ : ByteArray) ++ num m) := num_neg_app m h0
  have sq : (num m).size ≤ 8 := num_size m (by omega) (by omega)
  have e0 : -m < 0 := by omega
  have e1 : -10 < -m := by omega
  go_enter Tryd.func25, Tryd.ntmps25
  go_wp2_with fail
  refine (IH.out _).mono ?_
  rintro e w' ⟨rfl, k, rfl⟩
  go_wp2_with fail
  go_ret
  exact ⟨by rw [HN.out]; rfl, _, rfl⟩

theorem neg_step (m : Int) (h0 : 10 ≤ m) (h1 : m ≤ 1000000) (ih : NumOk (-(m / 10))) : NumOk (-m) := by
  intro w
  obtain ⟨q, hq⟩ : ∃ q, q = m / 10 := ⟨_, rfl⟩
  obtain ⟨d, hd⟩ : ∃ d, d = m % 10 := ⟨_, rfl⟩
  have e1 : m.tdiv 10 = q := by rw [Int.tdiv_eq_ediv_of_nonneg (by omega)]; omega
  have e2 : m.tmod 10 = d := by rw [Int.tmod_eq_emod_of_nonneg (by omega)]; omega
  have e3 : wrap64 (-q) = -q := IntWalk.wrap64_in _ ⟨by omega, by omega⟩
  have e4 : wrap64 (-d) = -d := IntWalk.wrap64_in _ ⟨by omega, by omega⟩
  have f0 : -m < 0 := by omega
  have f1 : -m ≤ -10 := by omega
  have d0 : 0 ≤ d := by omega
  have d1 : d < 10 := by omega
  have HN : Hid (num (-m) = num (-q) ++ num d) := by
    show num (-m) = num (-q) ++ num d
    rw [num_low_app m h0, hq, hd]
  have sq : (num (-q)).size ≤ 8 := num_size _ (by omega) (by omega)
  have sd : (num d).size ≤ 8 := num_size d (by omega) (by omega)
  have ID : Hid (NumOk d) := digit_ok _ (by omega) (by omega)
  have IH : Hid (NumOk (-q)) := by rw [hq]; exact ih
  clear ih hq hd
  go_enter Tryd.func25, Tryd.ntmps25
  go_wp2_with fail
  refine (IH.out _).mono ?_
  rintro e w' ⟨rfl, k, rfl⟩
  go_wp2_with fail
  refine (ID.out _).mono ?_
  rintro e w' ⟨rfl, k, rfl⟩
  go_wp2_with fail
  go_ret
  exact ⟨by rw [HN.out]; rfl, _, rfl⟩

theorem neg_ok (k : Nat) : ∀ m : Int, 0 < m → m ≤ 1000000 → m.toNat ≤ k → NumOk (-m) := by
  induction k with
  | zero => intro n a b c; omega
  | succ k ih =>
    intro n a b c
    by_cases h : n < 10
    · exact neg_digit n a h
    · exact neg_step n (by omega) b (ih (n / 10) (by omega) (by omega) (by omega))

theorem l1Num_any (n : Int) (w : World) (h0 : -1000000 ≤ n) (h1 : n ≤ 1000000) :
    Calls Tryd.prog 25 #[.int .i64 n] w fun e w' => e = .returned (.string (num n)) ∧ ∃ k, w' = w.drewN k := by
  by_cases h : 0 ≤ n
  · exact pos_ok n.toNat n h h1 (Nat.le_refl _) w
  · have := neg_ok (-n).toNat (-n) (by omega) (by omega) (Nat.le_refl _) w
    rwa [Int.neg_neg] at this
end Go.Proofs.YtdbkciffdfdfbaaDoor
