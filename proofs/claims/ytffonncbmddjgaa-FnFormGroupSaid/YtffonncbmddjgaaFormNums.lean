/-
  The contracts of FormBehind, FormBack and FormSide, in the reference and in the program, for all numbers.
-/
import Derived.Test.YtffonncbmddjgaaSpecMade
import Derived.Test.YtffonncbmddjgaaEqs
import Derived.Deep.RegionHeld3
namespace Go.Proofs.Ytffonncbmddjgaa
open Go.RowKit Plain
attribute [local go_sem] store_new

/-- The marked board. -/
def markF : Nat → Int := fun j => if j = 0 then 1 else if j = 1 then 2 else 0
theorem mk_mark : (#[.int .i64 1, .int .i64 2, .int .i64 0, .int .i64 0, .int .i64 0, .int .i64 0, .int .i64 0, .int .i64 0, .int .i64 0, .int .i64 0, .int .i64 0, .int .i64 0, .int .i64 0, .int .i64 0, .int .i64 0, .int .i64 0] : Array Value) = mk 16 markF := rfl
set_option maxRecDepth 100000 in
theorem mark_beh : ∀ k, k < 8 → ∀ m, m < 8 → ∀ j, j < 8 → sameB (formF markF j) (formF (formF markF k) m) = decide (j = behN k m) := by decide
set_option maxRecDepth 100000 in
theorem mark_back : ∀ k, k < 8 → ∀ m, m < 8 → sameB (formF (formF markF k) m) markF = decide (m = backN k) := by decide
set_option maxRecDepth 20000 in
theorem l3Marked_any (w : World) :
    Calls Try.prog 119 #[] w fun e w' => e = .returned (.agg (mk 16 markF)) ∧ Below w.heap.size w w' := by
  have zm := mk_mark
  have K1 : Blk (w.alloc (.cells #[.int .i64 0, .int .i64 0, .int .i64 0, .int .i64 0, .int .i64 0, .int .i64 0, .int .i64 0, .int .i64 0, .int .i64 0, .int .i64 0, .int .i64 0, .int .i64 0, .int .i64 0, .int .i64 0, .int .i64 0, .int .i64 0] 27)) w.heap.size 16 (fun _ => 0) 27 := Blk.new w 16 (fun _ => 0) 27
  have HB : Hid (Below w.heap.size w (w.alloc (.cells #[.int .i64 0, .int .i64 0, .int .i64 0, .int .i64 0, .int .i64 0, .int .i64 0, .int .i64 0, .int .i64 0, .int .i64 0, .int .i64 0, .int .i64 0, .int .i64 0, .int .i64 0, .int .i64 0, .int .i64 0, .int .i64 0] 27))) := (Below.refl w.heap.size w).alloc (Nat.le_refl _) _
  go_enter Try.func119, Try.ntmps119
  go_wp2_with ((with_reducible show wpList _ _ _ (Oper.mk _ (Op.store 27 _ _) _ _ _ _ :: _) _ _); refine storeB (K1) rfl rfl rfl rfl ?_)
  try simp only [Exit.inBlock, Exit.then]
  exact retcB (K1.row 16 _) rfl rfl rfl ⟨rfl, below_setRow HB.out (by omega) _⟩
theorem held1_step {w W W' : World} {g : Nat → Int} {t : TypeId} (h : Blk W w.heap.size 16 g t ∧ Below w.heap.size w W) (hb : Below W.heap.size W W') : Blk W' w.heap.size 16 g t ∧ Below w.heap.size w W' :=
  ⟨h.1.below hb h.1.lt, h.2.trans (hb.mono h.2.size)⟩
set_option maxHeartbeats 2000000 in
set_option maxRecDepth 20000 in
theorem l3Number_any (g : Nat → Int) (n : Nat) (w : World) (hn : n < 8) (hs : ∀ j, j < 8 → sameB (formF markF j) g = decide (j = n)) :
    Calls Try.prog 118 #[.agg (mk 16 g)] w fun e w' => e = .returned (.int .i64 n) ∧ Below w.heap.size w w' := by
  have K1 := Blk.new w 16 g 27
  have HB : Hid (Below w.heap.size w (w.alloc (.cells (mk 16 g) 27))) := (Below.refl w.heap.size w).alloc (Nat.le_refl _) (.cells (mk 16 g) 27)
  have HS := Lib.hid hs
  clear hs
  go_enter Try.func118, Try.ntmps118
  go_wp2_with fail
  generalize w.alloc (.cells (mk 16 g) 27) = w1 at *
  go_loopg [3] 8 (fun m s3 wr => ∃ k : Nat, k + m = 8 ∧ k ≤ n ∧ s3 = .int .i64 k ∧ Blk wr w.heap.size 16 g 27 ∧ Hid (Below w.heap.size w wr))
  case atStart => exact ⟨0, by omega, by omega, rfl, K1, HB⟩
  case round =>
    obtain ⟨k, hkm, hkn, rfl, k1, hb⟩ := hrel
    have S0 : Blk wr w.heap.size 16 g 27 ∧ Below w.heap.size w wr := ⟨k1, hb.out⟩
    clear k1 hb
    have hk8 : k < 8 := by omega
    have iN := neqB
    have HE := Lib.hid (HS.out k hk8)
    have a0 := fun (W : World) (h : Blk W w.heap.size 16 g 27) => h.cell (i := 0) (by omega)
    have a1 := fun (W : World) (h : Blk W w.heap.size 16 g 27) => h.cell (i := 1) (by omega)
    have a2 := fun (W : World) (h : Blk W w.heap.size 16 g 27) => h.cell (i := 2) (by omega)
    have a3 := fun (W : World) (h : Blk W w.heap.size 16 g 27) => h.cell (i := 3) (by omega)
    have a4 := fun (W : World) (h : Blk W w.heap.size 16 g 27) => h.cell (i := 4) (by omega)
    have a5 := fun (W : World) (h : Blk W w.heap.size 16 g 27) => h.cell (i := 5) (by omega)
    have a6 := fun (W : World) (h : Blk W w.heap.size 16 g 27) => h.cell (i := 6) (by omega)
    have a7 := fun (W : World) (h : Blk W w.heap.size 16 g 27) => h.cell (i := 7) (by omega)
    have a8 := fun (W : World) (h : Blk W w.heap.size 16 g 27) => h.cell (i := 8) (by omega)
    have a9 := fun (W : World) (h : Blk W w.heap.size 16 g 27) => h.cell (i := 9) (by omega)
    have a10 := fun (W : World) (h : Blk W w.heap.size 16 g 27) => h.cell (i := 10) (by omega)
    have a11 := fun (W : World) (h : Blk W w.heap.size 16 g 27) => h.cell (i := 11) (by omega)
    have a12 := fun (W : World) (h : Blk W w.heap.size 16 g 27) => h.cell (i := 12) (by omega)
    have a13 := fun (W : World) (h : Blk W w.heap.size 16 g 27) => h.cell (i := 13) (by omega)
    have a14 := fun (W : World) (h : Blk W w.heap.size 16 g 27) => h.cell (i := 14) (by omega)
    have a15 := fun (W : World) (h : Blk W w.heap.size 16 g 27) => h.cell (i := 15) (by omega)
    have ae : (#[.int .i64 (g 0), .int .i64 (g 1), .int .i64 (g 2), .int .i64 (g 3), .int .i64 (g 4), .int .i64 (g 5), .int .i64 (g 6), .int .i64 (g 7), .int .i64 (g 8), .int .i64 (g 9), .int .i64 (g 10), .int .i64 (g 11), .int .i64 (g 12), .int .i64 (g 13), .int .i64 (g 14), .int .i64 (g 15)] : Array Value) = mk 16 g := rfl
    go_wp2_with fail
    go_region_held3 (fun w' => Blk w' w.heap.size 16 g 27 ∧ Below w.heap.size w w') (first | exact ⟨Blk.drew (And.left (by assumption)), Below.drew (And.right (by assumption))⟩ | assumption) (first | (go_at_call 119; refine (l3Marked_any _).mono ?_; rintro e w6 ⟨rfl, hb6⟩; have J := held1_step (by assumption) hb6; clear hb6) | (go_at_call 116; refine (l3Made_any _ _ _ hk8).mono ?_; rintro e w7 ⟨rfl, hb7⟩; have J := held1_step (by assumption) hb7; clear hb7) | fail)
    all_goals
      clear a0 a1 a2 a3 a4 a5 a6 a7 a8 a9 a10 a11 a12 a13 a14 a15 ae
      rw [HE.out]
      by_cases hk : k = n
      · have HK := Lib.hid hk
        rw [decide_eq_true hk]
        clear hk
        go_wp2_with fail
        go_ret
        exact ⟨by rw [HK.out]; rfl, And.right (by assumption)⟩
      · rw [decide_eq_false hk]
        go_wp2_with fail
        go_roundg (7 - k)
        case rel => exact ⟨k + 1, by omega, by omega, by go_num, And.left (by assumption), And.right (by assumption)⟩
        case measure => omega

set_option maxHeartbeats 2000000 in
set_option maxRecDepth 20000 in
theorem l3Back_any (k : Nat) (w : World) (hk : k < 8) :
    Calls Try.prog 120 #[.int .i64 k] w fun e w' => e = .returned (.int .i64 (backN k : Nat)) ∧ Below w.heap.size w w' := by
  have hn := back_lt k hk
  have HS := Lib.hid (mark_back k hk)
  obtain ⟨n, HN⟩ : ∃ n, Hid (n = backN k) := ⟨_, rfl⟩
  rw [← HN.out] at hn HS ⊢
  clear HN
  have HB : Hid (Below w.heap.size w w) := Below.refl w.heap.size w
  go_enter Try.func120, Try.ntmps120
  go_wp2_with fail
  go_loopg [3] 8 (fun m s3 wr => ∃ j : Nat, j + m = 8 ∧ j ≤ n ∧ s3 = .int .i64 j ∧ Hid (Below w.heap.size w wr))
  case atStart => exact ⟨0, by omega, by omega, rfl, HB⟩
  case round =>
    obtain ⟨j, hjm, hjn, rfl, hb⟩ := hrel
    have hj8 : j < 8 := by omega
    have iN := neqB
    have HE := Lib.hid (HS.out j hj8)
    go_wp2_with fail
    refine (l3Marked_any _).mono ?_
    rintro e w2 ⟨rfl, hb2⟩
    have hb : Hid (Below w.heap.size w w2) := hb.out.trans (hb2.mono hb.out.size)
    clear hb2
    go_wp2_with fail
    refine (l3Made_any _ _ _ hk).mono ?_
    rintro e w3 ⟨rfl, hb2⟩
    have hb : Hid (Below w.heap.size w w3) := hb.out.trans (hb2.mono hb.out.size)
    clear hb2
    go_wp2_with fail
    refine (l3Made_any _ _ _ hj8).mono ?_
    rintro e w4 ⟨rfl, hb2⟩
    have hb : Hid (Below w.heap.size w w4) := hb.out.trans (hb2.mono hb.out.size)
    clear hb2
    go_wp2_with fail
    refine (l3Marked_any _).mono ?_
    rintro e w5 ⟨rfl, hb2⟩
    have hb : Hid (Below w.heap.size w w5) := hb.out.trans (hb2.mono hb.out.size)
    clear hb2
    by_cases h : j = n
    · have HE : sameB (formF (formF markF k) j) markF = true := HE.out.trans (decide_eq_true h)
      have HK := Lib.hid h
      clear h
      go_wp2_with fail
      go_ret
      exact ⟨by rw [HK.out]; rfl, hb.out⟩
    · have HE : sameB (formF (formF markF k) j) markF = false := HE.out.trans (decide_eq_false h)
      go_wp2_with fail
      go_roundg (7 - j)
      case rel => exact ⟨j + 1, by omega, by omega, by go_num, hb⟩
      case measure => omega

set_option maxHeartbeats 1000000 in
theorem specBehind_any (k m : Int) (w : World) :
    Calls Try.prog 30 #[.int .i64 k, .int .i64 m] w fun e w' => e = .returned (.tuple #[.int .i64 (behR k m), .bool (behO k m)]) ∧ Below w.heap.size w w' := by
  have HB : Hid (Below w.heap.size w w) := Below.refl w.heap.size w
  by_cases hk : 0 ≤ k ∧ k ≤ 7
  · by_cases hm : 0 ≤ m ∧ m ≤ 7
    · have y1 : behR k m = (behN k.toNat m.toNat : Nat) := by simp [behR, hk, hm]
      have y2 : behO k m = true := by simp [behO, hk, hm]
      rw [y1, y2]
      clear y1 y2
      obtain ⟨k0, k1⟩ := hk
      obtain ⟨m0, m1⟩ := hm
      obtain ⟨a, rfl, ha⟩ := isForm_nat k0 k1
      obtain ⟨b, rfl, hb⟩ := isForm_nat m0 m1
      have HL := Lib.hid (beh_lt a ha b hb)
      have HM := Lib.hid (mark_beh a ha b hb)
      rw [Int.toNat_natCast, Int.toNat_natCast]
      generalize behN a b = n at *
      go_enter Try.func30, Try.ntmps30
      go_wp2_with fail
      refine (l3Form_yes _ _ k0 k1).mono ?_
      rintro e w' ⟨rfl, rfl⟩
      go_wp2_with fail
      refine (l3Form_yes _ _ m0 m1).mono ?_
      rintro e w' ⟨rfl, rfl⟩
      go_wp2_with fail
      refine (l3Marked_any _).mono ?_
      rintro e w2 ⟨rfl, hb2⟩
      have HB : Hid (Below w.heap.size w w2) := HB.out.trans (hb2.mono HB.out.size)
      clear hb2
      go_wp2_with fail
      refine (l3Made_any _ _ _ ha).mono ?_
      rintro e w3 ⟨rfl, hb2⟩
      have HB : Hid (Below w.heap.size w w3) := HB.out.trans (hb2.mono HB.out.size)
      clear hb2
      go_wp2_with fail
      refine (l3Made_any _ _ _ hb).mono ?_
      rintro e w4 ⟨rfl, hb2⟩
      have HB : Hid (Below w.heap.size w w4) := HB.out.trans (hb2.mono HB.out.size)
      clear hb2
      go_wp2_with fail
      refine (l3Number_any _ n _ HL.out HM.out).mono ?_
      rintro e w5 ⟨rfl, hb2⟩
      have HB : Hid (Below w.heap.size w w5) := HB.out.trans (hb2.mono HB.out.size)
      clear hb2
      go_wp2_with fail
      go_ret2
      exact ⟨rfl, HB.out⟩
    · have y1 : behR k m = 0 := by simp only [behR, hm, and_false, if_false]
      have y2 : behO k m = false := by simp only [behO, hm, and_false, decide_false]
      rw [y1, y2]
      clear y1 y2
      obtain ⟨k0, k1⟩ := hk
      have HM := Lib.hid (show m < 0 ∨ 7 < m by omega)
      clear hm
      go_enter Try.func30, Try.ntmps30
      go_wp2_with fail
      refine (l3Form_yes _ _ k0 k1).mono ?_
      rintro e w' ⟨rfl, rfl⟩
      go_wp2_with fail
      refine (l3Form_no _ _ HM.out).mono ?_
      rintro e w' ⟨rfl, rfl⟩
      go_wp2_with fail
      go_ret2
      exact ⟨rfl, HB.out⟩
  · have y1 : behR k m = 0 := by simp only [behR, hk, false_and, if_false]
    have y2 : behO k m = false := by simp only [behO, hk, false_and, decide_false]
    rw [y1, y2]
    clear y1 y2
    have HK := Lib.hid (show k < 0 ∨ 7 < k by omega)
    clear hk
    go_enter Try.func30, Try.ntmps30
    go_wp2_with fail
    refine (l3Form_no _ _ HK.out).mono ?_
    rintro e w' ⟨rfl, rfl⟩
    go_wp2_with fail
    go_ret2
    exact ⟨rfl, HB.out⟩
set_option maxHeartbeats 1000000 in
theorem specBack_any (k : Int) (w : World) :
    Calls Try.prog 32 #[.int .i64 k] w fun e w' => e = .returned (.tuple #[.int .i64 (backR k), .bool (backO k)]) ∧ Below w.heap.size w w' := by
  have HB : Hid (Below w.heap.size w w) := Below.refl w.heap.size w
  by_cases hk : 0 ≤ k ∧ k ≤ 7
  · have y1 : backR k = (backN k.toNat : Nat) := by simp [backR, hk]
    have y2 : backO k = true := by simp [backO, hk]
    rw [y1, y2]
    clear y1 y2
    obtain ⟨k0, k1⟩ := hk
    obtain ⟨a, rfl, ha⟩ := isForm_nat k0 k1
    rw [Int.toNat_natCast]
    go_enter Try.func32, Try.ntmps32
    go_wp2_with fail
    refine (l3Form_yes _ _ k0 k1).mono ?_
    rintro e w' ⟨rfl, rfl⟩
    go_wp2_with fail
    refine (l3Back_any _ _ ha).mono ?_
    rintro e w2 ⟨rfl, hb2⟩
    have HB : Hid (Below w.heap.size w w2) := HB.out.trans (hb2.mono HB.out.size)
    clear hb2
    go_wp2_with fail
    go_ret2
    exact ⟨rfl, HB.out⟩
  · have y1 : backR k = 0 := by simp only [backR, hk, if_false]
    have y2 : backO k = false := by simp only [backO, hk, decide_false]
    rw [y1, y2]
    clear y1 y2
    have HK := Lib.hid (show k < 0 ∨ 7 < k by omega)
    clear hk
    go_enter Try.func32, Try.ntmps32
    go_wp2_with fail
    refine (l3Form_no _ _ HK.out).mono ?_
    rintro e w' ⟨rfl, rfl⟩
    go_wp2_with fail
    go_ret2
    exact ⟨rfl, HB.out⟩
end Go.Proofs.Ytffonncbmddjgaa
