/-
  Several texts in one:
  The program's table of views, at a direction that is told by a number: which functions it holds there, and what they return.
  The contracts of the program's markMust and markCan: the marks of the places of a row, by the rows before it.
  The contracts of MustMerge and CanMerge in the program, for every board and every direction.
-/
import Derived.Test.YtmcmpedmgibmkabGreatSpecLists
import Derived.Test.YtmcmpedmgibmkabGreatOver
import Derived.Shelf.Abstract
import Derived.Test.YtmcmpedmgibmkabGreatMergeB
import Derived.Test.YtmcmpedmgibmkabGreatImplWays
namespace Go.Proofs.YtmcmpedmgibmkabGreat
set_option linter.unusedVariables false
open Go.RowKit Plain
/-- The functions of a direction's view. -/
def vwF (d : Nat) : Nat := if d = 0 then 55 else if d = 1 then 56 else if d = 2 then 57 else 58
def vwB (d : Nat) : Nat := if d = 0 then 55 else if d = 1 then 56 else if d = 2 then 57 else 59
theorem idxV_nat (d : Nat) (hd : d < 4) (w : World) : (Instr.index 61 (.agg viewCells) (.int .i64 (d : Int))).run Tryz.prog w = .ok (.agg #[.func (.func (vwF d)) #[] #[], .func (.func (vwB d)) #[] #[]]) w := by
  rcases side4 hd with rfl | rfl | rfl | rfl
  · exact idxV0 w
  · exact idxV1 w
  · exact idxV2 w
  · exact idxV3 w
theorem there_nat (f : Nat → Int) (d : Nat) (w : World) (hd : d < 4) :
    Calls Tryz.prog (vwF d) #[.agg (mk 16 f)] w fun e w' => e = .returned (.agg (mk 16 (viewF f d))) ∧ Below w.heap.size w w' := by
  rcases side4 hd with rfl | rfl | rfl | rfl
  · exact there_0 f w
  · exact there_1 f w
  · exact there_2 f w
  · exact there_3 f w
theorem back_nat (f : Nat → Int) (d : Nat) (w : World) (hd : d < 4) :
    Calls Tryz.prog (vwB d) #[.agg (mk 16 f)] w fun e w' => e = .returned (.agg (mk 16 (backF f d))) ∧ Below w.heap.size w w' := by
  rcases side4 hd with rfl | rfl | rfl | rfl
  · exact back_0 f w
  · exact back_1 f w
  · exact back_2 f w
  · exact back_3 f w
theorem vwF_enters (d : Nat) (hd : d < 4) : ∀ args w, (callFunc (vwF d) args).run Tryz.prog w = .ok (.enter (vwF d) args) w := by
  rcases side4 hd with rfl | rfl | rfl | rfl
  · exact Go.Proofs.enters_of Tryz.func55 (by kernel_rfl) rfl
  · exact Go.Proofs.enters_of Tryz.func56 (by kernel_rfl) rfl
  · exact Go.Proofs.enters_of Tryz.func57 (by kernel_rfl) rfl
  · exact Go.Proofs.enters_of Tryz.func58 (by kernel_rfl) rfl
theorem vwB_enters (d : Nat) (hd : d < 4) : ∀ args w, (callFunc (vwB d) args).run Tryz.prog w = .ok (.enter (vwB d) args) w := by
  rcases side4 hd with rfl | rfl | rfl | rfl
  · exact Go.Proofs.enters_of Tryz.func55 (by kernel_rfl) rfl
  · exact Go.Proofs.enters_of Tryz.func56 (by kernel_rfl) rfl
  · exact Go.Proofs.enters_of Tryz.func57 (by kernel_rfl) rfl
  · exact Go.Proofs.enters_of Tryz.func59 (by kernel_rfl) rfl
theorem viewTwo (a b : Nat) : (#[.func (.func a) #[] #[], .func (.func b) #[] #[]] : Array Value).all (·.oneCell') = true := by simp [Value.oneCell']
theorem view_mk (f : Nat → Int) (d : Nat) {i : Nat} (hi : i < 4) : mk 4 (fun c => viewF f d (i * 4 + c)) = mk 4 (lineF f d i) :=
  mk_congr fun c hc => by unfold viewF lineF; rw [show (i * 4 + c) / 4 = i by omega, show (i * 4 + c) % 4 = c by omega]
end Go.Proofs.YtmcmpedmgibmkabGreat
namespace Go.Proofs.YtmcmpedmgibmkabGreat.Plain
def mI (b : Bool) : Int := if b then 1 else 0
set_option linter.unusedVariables false
theorem mgB_flat {R : List (List Int)} (ha : ∀ x, x ∈ R → x.length = 4) {j : Nat} {x : List Int} (hx : R[j]? = some x) : mgB (fun c => flatF R (j * 4 + c)) = mgB (fn x) := mgB_congr fun c hc => flatF_at ha hx hc
theorem al_yes {R : List (List Int)} {p : Nat} (h : ∀ (j : Nat) (x : List Int), R[j]? = some x → mgB (fn x) p = true) : alM R p = true := List.all_eq_true.2 fun x hx => by
  obtain ⟨j, hj⟩ := List.getElem?_of_mem hx; exact h j x hj
theorem al_no {R : List (List Int)} {p j : Nat} {x : List Int} (hx : R[j]? = some x) (h : mgB (fn x) p = false) : alM R p = false := by
  unfold alM; rw [List.all_eq_false]; exact ⟨x, List.mem_of_getElem? hx, by rw [h]; simp⟩
/-- The marks so far: some of the first j rows, or, at the places below p, the next one. -/
def caB (R : List (List Int)) (j p : Nat) (b : Nat → Bool) : Nat → Int := fun k => mI (anM (R.take j) k || (decide (k < p) && b k))
theorem caB_zero (R : List (List Int)) (b : Nat → Bool) (k : Nat) : caB R 0 0 b k = 0 := by simp [caB, anM, mI]
theorem caB_start (R : List (List Int)) (j : Nat) (b c : Nat → Bool) (k : Nat) : caB R j 0 b k = caB R j 0 c k := by simp [caB]
theorem caB_no {R : List (List Int)} {j p : Nat} {b : Nat → Bool} (h : b p = false) (k : Nat) : caB R j p b k = caB R j (p + 1) b k := by
  unfold caB
  by_cases e : k = p
  · subst e; simp [h]
  · congr 2; congr 1; rw [Bool.eq_iff_iff, decide_eq_true_iff, decide_eq_true_iff]; omega
theorem caB_yes {R : List (List Int)} {j p : Nat} {b : Nat → Bool} (h : b p = true) (k : Nat) : upd (caB R j p b) p 1 k = caB R j (p + 1) b k := by
  by_cases e : k = p
  · subst e; rw [upd_same]; simp [caB, h, mI]
  · rw [upd_other _ _ e]; unfold caB
    congr 2; congr 1; rw [Bool.eq_iff_iff, decide_eq_true_iff, decide_eq_true_iff]; omega
theorem caB_row {R : List (List Int)} {j : Nat} {x : List Int} (hx : R[j]? = some x) (c : Nat → Bool) {k : Nat} (hk : k < 4) : caB R j 4 (mgB (fn x)) k = caB R (j + 1) 0 c k := by
  unfold caB anM
  rw [List.take_add_one, hx, List.any_append]
  simp [hk]
theorem caB_all (R : List (List Int)) (c : Nat → Bool) (k : Nat) : caB R R.length 0 c k = mI (anM R k) := by simp [caB]
end Go.Proofs.YtmcmpedmgibmkabGreat.Plain
namespace Go.Proofs.YtmcmpedmgibmkabGreat
open Go.RowKit Plain
attribute [local go_sem] store_new
set_option linter.unusedVariables false
set_option linter.unusedSimpArgs false

end Go.Proofs.YtmcmpedmgibmkabGreat
namespace Go.Proofs.YtmcmpedmgibmkabGreat.Plain
/-- The marks of the first i lines, as the view has them. -/
def mkV (mf : List (List Int) → Nat → Bool) (R : Nat → List (List Int)) (i : Nat) : Nat → Int := fun j => if j / 4 < i then mI (mf (R (j / 4)) (j % 4)) else 0
theorem mkV_zero (mf : List (List Int) → Nat → Bool) (R : Nat → List (List Int)) (j : Nat) : mkV mf R 0 j = 0 := by unfold mkV; rw [if_neg (by omega)]
theorem mkV_step (mf : List (List Int) → Nat → Bool) (R : Nat → List (List Int)) (i : Nat) (j : Nat) : patch (mkV mf R i) (i * 4) 4 (fun p => mI (mf (R i) p)) j = mkV mf R (i + 1) j := by
  unfold patch mkV
  by_cases h : i * 4 ≤ j ∧ j < i * 4 + 4
  · rw [if_pos h, if_pos (by omega), show j / 4 = i by omega, show j % 4 = j - i * 4 by omega]
  · rw [if_neg h]
    by_cases q : j / 4 < i
    · rw [if_pos q, if_pos (by omega)]
    · rw [if_neg q, if_neg (by omega)]
theorem mkV_back (mf : List (List Int) → Nat → Bool) (f : Nat → Int) (k : Nat) {j : Nat} (hj : j < 16) : backF (mkV mf (lnR f k) 4) k j = mI (mf (lnR f k (lineOf k j)) (placeOf k j)) := by
  have h1 := lineOf_lt (d := k) hj
  have h2 := placeOf_lt (d := k) hj
  unfold backF mkV
  rw [if_pos (by omega), show (lineOf k j * 4 + placeOf k j) / 4 = lineOf k j by omega, show (lineOf k j * 4 + placeOf k j) % 4 = placeOf k j by omega]
end Go.Proofs.YtmcmpedmgibmkabGreat.Plain
namespace Go.Proofs.YtmcmpedmgibmkabGreat
open Go.RowKit Plain
attribute [local go_sem] store_new
set_option linter.unusedVariables false
set_option linter.unusedSimpArgs false

theorem mkMustMerge_eq (f : Nat → Int) (k : Nat) : (fun j => alM (lnR f k (lineOf k j)) (placeOf k j)) = mkC false f k := by funext j; simp [mkC]
theorem mkCanMerge_eq (f : Nat → Int) (k : Nat) : (fun j => anM (lnR f k (lineOf k j)) (placeOf k j)) = mkC true f k := by funext j; simp [mkC]
end Go.Proofs.YtmcmpedmgibmkabGreat
