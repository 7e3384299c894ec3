/-
  The contracts of LessBoard, in the reference and in the program, and of slices.Compare of four integers.
-/
import Derived.Test.YtlboglcpbbnbcabBaseA
import Derived.Test.YtlboglcpbbnbcabPlainA
import Derived.Deep.QuietTactic
import Derived.BigQuiet
import Derived.Deep.RegionHeld3
namespace Go.Proofs.Ytlboglcpbbnbcab
open Go.RowKit Plain
attribute [local go_sem] store_new

theorem isNaN_any (x : Int) (w : World) : Calls Try.prog 169 #[.int .i64 x] w fun e w' => e = .returned (.bool false) ∧ w = w' := by
  have h : (x != x) = false := by simp
  go_enter Try.func169, Try.ntmps169
  go_wp2_with fail
  go_ret
  exact ⟨rfl, rfl⟩
theorem cmp_lt (x y : Int) (w : World) (h : x < y) : Calls Try.prog 148 #[.int .i64 x, .int .i64 y] w fun e w' => e = .returned (.int .i64 (-1)) ∧ w = w' := by
  have h2 : ¬ y < x := by omega
  go_enter Try.func148, Try.ntmps148
  go_wp2_with fail
  refine (isNaN_any _ _).mono ?_
  rintro e w1 ⟨rfl, rfl⟩
  go_wp2_with fail
  refine (isNaN_any _ _).mono ?_
  rintro e w2 ⟨rfl, rfl⟩
  go_wp2_with fail
  go_ret
  exact ⟨rfl, rfl⟩
theorem cmp_gt (x y : Int) (w : World) (h : y < x) : Calls Try.prog 148 #[.int .i64 x, .int .i64 y] w fun e w' => e = .returned (.int .i64 1) ∧ w = w' := by
  have h2 : ¬ x < y := by omega
  go_enter Try.func148, Try.ntmps148
  go_wp2_with fail
  refine (isNaN_any _ _).mono ?_
  rintro e w1 ⟨rfl, rfl⟩
  go_wp2_with fail
  refine (isNaN_any _ _).mono ?_
  rintro e w2 ⟨rfl, rfl⟩
  go_wp2_with fail
  go_ret
  exact ⟨rfl, rfl⟩
theorem cmp_eq (x : Int) (w : World) : Calls Try.prog 148 #[.int .i64 x, .int .i64 x] w fun e w' => e = .returned (.int .i64 0) ∧ w = w' := by
  have h : ¬ x < x := by omega
  go_enter Try.func148, Try.ntmps148
  go_wp2_with fail
  refine (isNaN_any _ _).mono ?_
  rintro e w1 ⟨rfl, rfl⟩
  go_wp2_with fail
  refine (isNaN_any _ _).mono ?_
  rintro e w2 ⟨rfl, rfl⟩
  go_wp2_with fail
  go_ret
  exact ⟨rfl, rfl⟩
/-- slices.Compare of two rows of four that differ first at the place c. -/
theorem compare_lt (b1 o1 b2 o2 p q : Nat) (f g : Nat → Int) (c : Nat) (w : World) (hc : c < 4) (he : ∀ i, i < c → f i = g i) (hd : f c < g c)
    (h1 : ∀ j, j < 4 → w.cell? ⟨b1, o1 + j, none⟩ = some (.int .i64 (f j))) (h2 : ∀ j, j < 4 → w.cell? ⟨b2, o2 + j, none⟩ = some (.int .i64 (g j))) :
    Calls Try.prog 99 #[.slice (some ⟨b1, o1, none⟩) 4 p, .slice (some ⟨b2, o2, none⟩) 4 q] w fun e w' => e = .returned (.int .i64 (-1)) ∧ w = w' := by
  have HE := Lib.hid he
  have HD := Lib.hid hd
  have H1 := Lib.hid h1
  have H2 := Lib.hid h2
  clear he hd h1 h2
  go_enter Try.func99, Try.ntmps99
  go_wp2_with fail
  go_loop [11] (fun i => ∃ k : Nat, k ≤ c ∧ i = .int .i64 k) (fun i => 4 - (intOf i).toNat)
  case atStart => exact ⟨0, Nat.zero_le _, rfl⟩
  case round =>
    obtain ⟨k, hk, rfl⟩ := hrel
    have hk0 : (0 : Int) ≤ (k : Int) := by omega
    have hk4 : (k : Int) < 4 := by omega
    have c1 := H1.out k (by omega)
    have c2 := H2.out k (by omega)
    by_cases hkc : k < c
    · rw [← HE.out k hkc] at c2
      generalize f k = x at c1 c2
      go_wp2_with fail
      refine (cmp_eq _ _).mono ?_
      rintro e w1 ⟨rfl, rfl⟩
      go_wp2_with fail
      go_round
      case rel => exact ⟨k + 1, by omega, by go_num⟩
      case measure => simp [intOf]; omega
    · obtain rfl : k = c := by omega
      go_wp2_with fail
      refine (cmp_lt _ _ _ HD.out).mono ?_
      rintro e w1 ⟨rfl, rfl⟩
      go_wp2_with fail
      go_ret
      exact ⟨rfl, rfl⟩
/-- slices.Compare of two rows of four that differ first at the place c. -/
theorem compare_gt (b1 o1 b2 o2 p q : Nat) (f g : Nat → Int) (c : Nat) (w : World) (hc : c < 4) (he : ∀ i, i < c → f i = g i) (hd : g c < f c)
    (h1 : ∀ j, j < 4 → w.cell? ⟨b1, o1 + j, none⟩ = some (.int .i64 (f j))) (h2 : ∀ j, j < 4 → w.cell? ⟨b2, o2 + j, none⟩ = some (.int .i64 (g j))) :
    Calls Try.prog 99 #[.slice (some ⟨b1, o1, none⟩) 4 p, .slice (some ⟨b2, o2, none⟩) 4 q] w fun e w' => e = .returned (.int .i64 1) ∧ w = w' := by
  have HE := Lib.hid he
  have HD := Lib.hid hd
  have H1 := Lib.hid h1
  have H2 := Lib.hid h2
  clear he hd h1 h2
  go_enter Try.func99, Try.ntmps99
  go_wp2_with fail
  go_loop [11] (fun i => ∃ k : Nat, k ≤ c ∧ i = .int .i64 k) (fun i => 4 - (intOf i).toNat)
  case atStart => exact ⟨0, Nat.zero_le _, rfl⟩
  case round =>
    obtain ⟨k, hk, rfl⟩ := hrel
    have hk0 : (0 : Int) ≤ (k : Int) := by omega
    have hk4 : (k : Int) < 4 := by omega
    have c1 := H1.out k (by omega)
    have c2 := H2.out k (by omega)
    by_cases hkc : k < c
    · rw [← HE.out k hkc] at c2
      generalize f k = x at c1 c2
      go_wp2_with fail
      refine (cmp_eq _ _).mono ?_
      rintro e w1 ⟨rfl, rfl⟩
      go_wp2_with fail
      go_round
      case rel => exact ⟨k + 1, by omega, by go_num⟩
      case measure => simp [intOf]; omega
    · obtain rfl : k = c := by omega
      go_wp2_with fail
      refine (cmp_gt _ _ _ HD.out).mono ?_
      rintro e w1 ⟨rfl, rfl⟩
      go_wp2_with fail
      go_ret
      exact ⟨rfl, rfl⟩

end Go.Proofs.Ytlboglcpbbnbcab
