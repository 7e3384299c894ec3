/-
  The contracts of the small tests of chapter 2 (tile, side, line, cell) and of the worth of a tile, in the program and in the reference.
-/
import Derived.Test.YtpiegllffkjneaaTypes
namespace Go.Proofs.Ytpiegllffkjneaa
open Go.RowKit Plain

theorem l1In_yes (x a b : Int) (w : World) (h0 : a ≤ x) (h1 : x ≤ b) :
    Calls Try.prog 121 #[.int .i64 x, .int .i64 a, .int .i64 b] w fun e w' => e = .returned (.bool true) ∧ w = w' := by
  go_enter Try.func121, Try.ntmps121
  go_wp2
  go_ret
  exact ⟨rfl, rfl⟩
theorem l1In_no (x a b : Int) (w : World) (h : x < a ∨ b < x) :
    Calls Try.prog 121 #[.int .i64 x, .int .i64 a, .int .i64 b] w fun e w' => e = .returned (.bool false) ∧ w = w' := by
  by_cases h0 : a ≤ x
  · have h1 : b < x := by omega
    have h2 : decide (x ≤ b) = false := by simp; omega
    clear h
    go_enter Try.func121, Try.ntmps121
    go_wp2
    go_ret
    exact ⟨rfl, rfl⟩
  · have h1 : x < a := by omega
    have h2 : decide (a ≤ x) = false := by simp; omega
    clear h h0
    go_enter Try.func121, Try.ntmps121
    go_wp2
    go_ret
    exact ⟨rfl, rfl⟩
theorem isTile_yes (x : Int) (w : World) (h0 : 1 ≤ x) (h1 : x ≤ 17) :
    Calls Try.prog 111 #[.int .i64 x] w fun e w' => e = .returned (.bool true) ∧ w = w' := by
  have d0 : decide (1 ≤ x) = true := by simpa using h0
  have d1 : decide (x ≤ 17) = true := by simp; omega
  clear h0 h1
  go_enter Try.func111, Try.ntmps111
  go_wp2
  go_ret
  exact ⟨rfl, rfl⟩
theorem isTile_no (x : Int) (w : World) (h : x < 1 ∨ 17 < x) :
    Calls Try.prog 111 #[.int .i64 x] w fun e w' => e = .returned (.bool false) ∧ w = w' := by
  by_cases h0 : 1 ≤ x
  · have d0 : decide (1 ≤ x) = true := by simpa using h0
    have d1 : decide (x ≤ 17) = false := by simp; omega
    clear h h0
    go_enter Try.func111, Try.ntmps111
    go_wp2
    go_ret
    exact ⟨rfl, rfl⟩
  · have d0 : decide (1 ≤ x) = false := by simp; omega
    clear h h0
    go_enter Try.func111, Try.ntmps111
    go_wp2
    go_ret
    exact ⟨rfl, rfl⟩
theorem isDirection_yes (x : Int) (w : World) (h0 : 0 ≤ x) (h1 : x ≤ 3) :
    Calls Try.prog 117 #[.int .i64 x] w fun e w' => e = .returned (.bool true) ∧ w = w' := by
  have d0 : decide (0 ≤ x) = true := by simpa using h0
  have d1 : decide (x < 4) = true := by simp; omega
  clear h0 h1
  go_enter Try.func117, Try.ntmps117
  go_wp2
  go_ret
  exact ⟨rfl, rfl⟩
theorem isDirection_no (x : Int) (w : World) (h : x < 0 ∨ 3 < x) :
    Calls Try.prog 117 #[.int .i64 x] w fun e w' => e = .returned (.bool false) ∧ w = w' := by
  by_cases h0 : 0 ≤ x
  · have d0 : decide (0 ≤ x) = true := by simpa using h0
    have d1 : decide (x < 4) = false := by simp; omega
    clear h h0
    go_enter Try.func117, Try.ntmps117
    go_wp2
    go_ret
    exact ⟨rfl, rfl⟩
  · have d0 : decide (0 ≤ x) = false := by simp; omega
    clear h h0
    go_enter Try.func117, Try.ntmps117
    go_wp2
    go_ret
    exact ⟨rfl, rfl⟩
theorem isLine_yes (x : Int) (w : World) (h0 : 0 ≤ x) (h1 : x ≤ 3) :
    Calls Try.prog 118 #[.int .i64 x] w fun e w' => e = .returned (.bool true) ∧ w = w' := by
  have d0 : decide (0 ≤ x) = true := by simpa using h0
  have d1 : decide (x < 4) = true := by simp; omega
  clear h0 h1
  go_enter Try.func118, Try.ntmps118
  go_wp2
  go_ret
  exact ⟨rfl, rfl⟩
theorem isLine_no (x : Int) (w : World) (h : x < 0 ∨ 3 < x) :
    Calls Try.prog 118 #[.int .i64 x] w fun e w' => e = .returned (.bool false) ∧ w = w' := by
  by_cases h0 : 0 ≤ x
  · have d0 : decide (0 ≤ x) = true := by simpa using h0
    have d1 : decide (x < 4) = false := by simp; omega
    clear h h0
    go_enter Try.func118, Try.ntmps118
    go_wp2
    go_ret
    exact ⟨rfl, rfl⟩
  · have d0 : decide (0 ≤ x) = false := by simp; omega
    clear h h0
    go_enter Try.func118, Try.ntmps118
    go_wp2
    go_ret
    exact ⟨rfl, rfl⟩
theorem l2Tile_yes (x : Int) (w : World) (h0 : 1 ≤ x) (h1 : x ≤ 17) :
    Calls Try.prog 113 #[.int .i64 x] w fun e w' => e = .returned (.bool true) ∧ w = w' := by
  go_enter Try.func113, Try.ntmps113
  go_wp2_with fail
  refine (l1In_yes x 1 17 _ h0 h1).mono ?_
  rintro e w' ⟨rfl, rfl⟩
  go_wp2
  go_ret
  exact ⟨rfl, rfl⟩
theorem l2Tile_no (x : Int) (w : World) (h : x < 1 ∨ 17 < x) :
    Calls Try.prog 113 #[.int .i64 x] w fun e w' => e = .returned (.bool false) ∧ w = w' := by
  have H := Lib.hid h
  clear h
  go_enter Try.func113, Try.ntmps113
  go_wp2_with fail
  refine (l1In_no x 1 17 _ H.out).mono ?_
  rintro e w' ⟨rfl, rfl⟩
  go_wp2
  go_ret
  exact ⟨rfl, rfl⟩
theorem l2Side_yes (x : Int) (w : World) (h0 : 0 ≤ x) (h1 : x ≤ 3) :
    Calls Try.prog 120 #[.int .i64 x] w fun e w' => e = .returned (.bool true) ∧ w = w' := by
  go_enter Try.func120, Try.ntmps120
  go_wp2_with fail
  refine (l1In_yes x 0 3 _ h0 h1).mono ?_
  rintro e w' ⟨rfl, rfl⟩
  go_wp2
  go_ret
  exact ⟨rfl, rfl⟩
theorem l2Side_no (x : Int) (w : World) (h : x < 0 ∨ 3 < x) :
    Calls Try.prog 120 #[.int .i64 x] w fun e w' => e = .returned (.bool false) ∧ w = w' := by
  have H := Lib.hid h
  clear h
  go_enter Try.func120, Try.ntmps120
  go_wp2_with fail
  refine (l1In_no x 0 3 _ H.out).mono ?_
  rintro e w' ⟨rfl, rfl⟩
  go_wp2
  go_ret
  exact ⟨rfl, rfl⟩

theorem worthOf_any (t : Int) (w : World) (h0 : 0 ≤ t) (h1 : t ≤ 18) :
    Calls Try.prog 167 #[.int .i64 t] w fun e w' => e = .returned (.int .i64 (worth t)) ∧ w = w' := by
  have h2 : t ≤ 64 := by omega
  have HW := Lib.hid (worth_bd h0 h1)
  go_enter Try.func167, Try.ntmps167
  go_wp2
  go_ret
  refine ⟨ret_int ?_, rfl⟩
  obtain ⟨a, b⟩ := HW.out
  exact IntWalk.wrap64_in (worth t) ⟨by omega, by omega⟩
theorem l2Worth_any (t : Int) (w : World) (h0 : 0 ≤ t) (h1 : t ≤ 18) :
    Calls Try.prog 172 #[.int .i64 t] w fun e w' => e = .returned (.int .i64 (worth t)) ∧ w = w' := by
  have h2 : t ≤ 64 := by omega
  have HW := Lib.hid (worth_bd h0 h1)
  go_enter Try.func172, Try.ntmps172
  go_wp2
  go_ret
  refine ⟨ret_int ?_, rfl⟩
  obtain ⟨a, b⟩ := HW.out
  exact IntWalk.wrap64_in (worth t) ⟨by omega, by omega⟩

/-- The cell lies on a board. -/
def CellOk (g : Nat → Int) : Prop := (0 ≤ g 0 ∧ g 0 ≤ 3) ∧ 0 ≤ g 1 ∧ g 1 ≤ 3
instance (g : Nat → Int) : Decidable (CellOk g) := by unfold CellOk; infer_instance
theorem isCell_yes (g : Nat → Int) (w : World) (h : CellOk g) :
    Calls Try.prog 110 #[.agg (mk 2 g)] w fun e w' => e = .returned (.bool true) ∧ Below w.heap.size w w' := by
  obtain ⟨⟨a0, a1⟩, b0, b1⟩ := h
  have m0 : (mk 2 g)[0]? = some (.int .i64 (g 0)) := mk_get g (by omega)
  have m1 : (mk 2 g)[1]? = some (.int .i64 (g 1)) := mk_get g (by omega)
  have HB := Lib.hid ((Below.refl w.heap.size w).alloc (Nat.le_refl _) (.cells (mk 2 g) 49))
  generalize g 0 = x at *
  generalize g 1 = y at *
  go_enter Try.func110, Try.ntmps110
  go_wp2_with fail
  refine (isLine_yes x _ a0 a1).mono ?_
  rintro e w' ⟨rfl, rfl⟩
  go_wp2_with fail
  refine (isLine_yes y _ b0 b1).mono ?_
  rintro e w' ⟨rfl, rfl⟩
  go_wp2_with fail
  go_ret
  exact ⟨rfl, HB.out⟩
theorem isCell_no (g : Nat → Int) (w : World) (h : ¬ CellOk g) :
    Calls Try.prog 110 #[.agg (mk 2 g)] w fun e w' => e = .returned (.bool false) ∧ Below w.heap.size w w' := by
  have m0 : (mk 2 g)[0]? = some (.int .i64 (g 0)) := mk_get g (by omega)
  have m1 : (mk 2 g)[1]? = some (.int .i64 (g 1)) := mk_get g (by omega)
  have HB := Lib.hid ((Below.refl w.heap.size w).alloc (Nat.le_refl _) (.cells (mk 2 g) 49))
  unfold CellOk at h
  generalize g 0 = x at *
  generalize g 1 = y at *
  by_cases hx : 0 ≤ x ∧ x ≤ 3
  · have H := Lib.hid (show y < 0 ∨ 3 < y by omega)
    obtain ⟨a0, a1⟩ := hx
    clear h
    go_enter Try.func110, Try.ntmps110
    go_wp2_with fail
    refine (isLine_yes x _ a0 a1).mono ?_
    rintro e w' ⟨rfl, rfl⟩
    go_wp2_with fail
    refine (isLine_no y _ H.out).mono ?_
    rintro e w' ⟨rfl, rfl⟩
    go_wp2_with fail
    go_ret
    exact ⟨rfl, HB.out⟩
  · have H := Lib.hid (show x < 0 ∨ 3 < x by omega)
    clear h hx
    go_enter Try.func110, Try.ntmps110
    go_wp2_with fail
    refine (isLine_no x _ H.out).mono ?_
    rintro e w' ⟨rfl, rfl⟩
    go_wp2_with fail
    go_ret
    exact ⟨rfl, HB.out⟩
theorem l2Cell_yes (g : Nat → Int) (w : World) (h : CellOk g) :
    Calls Try.prog 112 #[.agg (mk 2 g)] w fun e w' => e = .returned (.bool true) ∧ Below w.heap.size w w' := by
  obtain ⟨⟨a0, a1⟩, b0, b1⟩ := h
  have m0 : (mk 2 g)[0]? = some (.int .i64 (g 0)) := mk_get g (by omega)
  have m1 : (mk 2 g)[1]? = some (.int .i64 (g 1)) := mk_get g (by omega)
  have HB := Lib.hid ((Below.refl w.heap.size w).alloc (Nat.le_refl _) (.cells (mk 2 g) 49))
  generalize g 0 = x at *
  generalize g 1 = y at *
  go_enter Try.func112, Try.ntmps112
  go_wp2_with fail
  refine (l1In_yes x 0 3 _ a0 a1).mono ?_
  rintro e w' ⟨rfl, rfl⟩
  go_wp2_with fail
  refine (l1In_yes y 0 3 _ b0 b1).mono ?_
  rintro e w' ⟨rfl, rfl⟩
  go_wp2_with fail
  go_ret
  exact ⟨rfl, HB.out⟩
theorem l2Cell_no (g : Nat → Int) (w : World) (h : ¬ CellOk g) :
    Calls Try.prog 112 #[.agg (mk 2 g)] w fun e w' => e = .returned (.bool false) ∧ Below w.heap.size w w' := by
  have m0 : (mk 2 g)[0]? = some (.int .i64 (g 0)) := mk_get g (by omega)
  have m1 : (mk 2 g)[1]? = some (.int .i64 (g 1)) := mk_get g (by omega)
  have HB := Lib.hid ((Below.refl w.heap.size w).alloc (Nat.le_refl _) (.cells (mk 2 g) 49))
  unfold CellOk at h
  generalize g 0 = x at *
  generalize g 1 = y at *
  by_cases hx : 0 ≤ x ∧ x ≤ 3
  · have H := Lib.hid (show y < 0 ∨ 3 < y by omega)
    obtain ⟨a0, a1⟩ := hx
    clear h
    go_enter Try.func112, Try.ntmps112
    go_wp2_with fail
    refine (l1In_yes x 0 3 _ a0 a1).mono ?_
    rintro e w' ⟨rfl, rfl⟩
    go_wp2_with fail
    refine (l1In_no y 0 3 _ H.out).mono ?_
    rintro e w' ⟨rfl, rfl⟩
    go_wp2_with fail
    go_ret
    exact ⟨rfl, HB.out⟩
  · have H := Lib.hid (show x < 0 ∨ 3 < x by omega)
    clear h hx
    go_enter Try.func112, Try.ntmps112
    go_wp2_with fail
    refine (l1In_no x 0 3 _ H.out).mono ?_
    rintro e w' ⟨rfl, rfl⟩
    go_wp2_with fail
    go_ret
    exact ⟨rfl, HB.out⟩
end Go.Proofs.Ytpiegllffkjneaa
