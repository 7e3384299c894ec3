/-
  The contracts of MostRowScore, in the reference and in the program, for every row: two functions that call themselves.
-/
import Derived.Test.YtphkidkkcknnmaaRowsSym
namespace Go.Proofs.Ytphkidkkcknnmaa
open Go.RowKit Plain
attribute [local go_sem] store_new

theorem l1Most_any (a b : Int) (w : World) :
    Calls Try.prog 68 #[.int .i64 a, .int .i64 b] w fun e w' => e = .returned (.int .i64 (max a b)) ∧ w = w' := by
  by_cases h : b < a
  · have HM : Hid (max a b = a) := Int.max_eq_left (by omega)
    go_enter Try.func68, Try.ntmps68
    go_wp2
    go_ret
    exact ⟨by rw [HM.out]; rfl, rfl⟩
  · have HM : Hid (max a b = b) := Int.max_eq_right (by omega)
    have h2 : decide (b < a) = false := by simpa using h
    clear h
    go_enter Try.func68, Try.ntmps68
    go_wp2
    go_ret
    exact ⟨by rw [HM.out]; rfl, rfl⟩
/-- What a line's slide scores, by whether it merges. -/
theorem sc_none {f : Nat → Int} (hV : VdRow f) (hm : (slid f 4).mg = 0) : (slid f 4).sc = 0 := by
  have := sc_mg hV 4 (Nat.le_refl _)
  have := (slid_ok hV 4 (Nat.le_refl _)).sc0
  omega
theorem sc_some {f : Nat → Int} (hV : VdRow f) (hm : (slid f 4).mg ≠ 0) : 0 < (slid f 4).sc := by
  have := sc_mg hV 4 (Nat.le_refl _)
  have := (slid_ok hV 4 (Nat.le_refl _)).mg0
  omega
theorem sc_bd {f : Nat → Int} (hV : VdRow f) : 0 ≤ (slid f 4).sc ∧ (slid f 4).sc ≤ 1048576 := by
  have h := slid_ok hV 4 (Nat.le_refl _)
  have := h.sc0
  have := h.sc1
  omega
theorem held4m_step {w W w6 : World} {b n c m : Nat} {f g : Nat → Int} {t u : TypeId} (h : Blk W b n f t ∧ Blk W c m g u ∧ Below w.heap.size w W) (hb : Below W.heap.size W w6) : Blk w6 b n f t ∧ Blk w6 c m g u ∧ Below w.heap.size w w6 :=
  ⟨h.1.below hb h.1.lt, h.2.1.below hb h.2.1.lt, h.2.2.trans (hb.mono h.2.2.size)⟩
end Go.Proofs.Ytphkidkkcknnmaa
