/-
  The program's table of views, at a direction that is told by a number: which functions it holds there, and what they return.
-/
import Derived.Test.YtphkidkkcknnmaaSpecLists
import Derived.Test.YtphkidkkcknnmaaOver
import Derived.Shelf.Abstract
namespace Go.Proofs.Ytphkidkkcknnmaa
set_option linter.unusedVariables false
open Go.RowKit Plain
/-- The functions of a direction's view. -/
def vwF (d : Nat) : Nat := if d = 0 then 98 else if d = 1 then 99 else if d = 2 then 100 else 101
def vwB (d : Nat) : Nat := if d = 0 then 98 else if d = 1 then 99 else if d = 2 then 100 else 102
theorem idxV_nat (d : Nat) (hd : d < 4) (w : World) : (Instr.index 89 (.agg viewCells) (.int .i64 (d : Int))).run Try.prog w = .ok (.agg #[.func (.func (vwF d)) #[] #[], .func (.func (vwB d)) #[] #[]]) w := by
  rcases side4 hd with rfl | rfl | rfl | rfl
  · exact idxV0 w
  · exact idxV1 w
  · exact idxV2 w
  · exact idxV3 w
theorem there_nat (f : Nat → Int) (d : Nat) (w : World) (hd : d < 4) :
    Calls Try.prog (vwF d) #[.agg (mk 16 f)] w fun e w' => e = .returned (.agg (mk 16 (viewF f d))) ∧ Below w.heap.size w w' := by
  rcases side4 hd with rfl | rfl | rfl | rfl
  · exact there_0 f w
  · exact there_1 f w
  · exact there_2 f w
  · exact there_3 f w
theorem back_nat (f : Nat → Int) (d : Nat) (w : World) (hd : d < 4) :
    Calls Try.prog (vwB d) #[.agg (mk 16 f)] w fun e w' => e = .returned (.agg (mk 16 (backF f d))) ∧ Below w.heap.size w w' := by
  rcases side4 hd with rfl | rfl | rfl | rfl
  · exact back_0 f w
  · exact back_1 f w
  · exact back_2 f w
  · exact back_3 f w
theorem vwF_enters (d : Nat) (hd : d < 4) : ∀ args w, (callFunc (vwF d) args).run Try.prog w = .ok (.enter (vwF d) args) w := by
  rcases side4 hd with rfl | rfl | rfl | rfl
  · exact Go.Proofs.enters_of Try.func98 (by kernel_rfl) rfl
  · exact Go.Proofs.enters_of Try.func99 (by kernel_rfl) rfl
  · exact Go.Proofs.enters_of Try.func100 (by kernel_rfl) rfl
  · exact Go.Proofs.enters_of Try.func101 (by kernel_rfl) rfl
theorem vwB_enters (d : Nat) (hd : d < 4) : ∀ args w, (callFunc (vwB d) args).run Try.prog w = .ok (.enter (vwB d) args) w := by
  rcases side4 hd with rfl | rfl | rfl | rfl
  · exact Go.Proofs.enters_of Try.func98 (by kernel_rfl) rfl
  · exact Go.Proofs.enters_of Try.func99 (by kernel_rfl) rfl
  · exact Go.Proofs.enters_of Try.func100 (by kernel_rfl) rfl
  · exact Go.Proofs.enters_of Try.func102 (by kernel_rfl) rfl
theorem viewTwo (a b : Nat) : (#[.func (.func a) #[] #[], .func (.func b) #[] #[]] : Array Value).all (·.oneCell') = true := by simp [Value.oneCell']
theorem view_mk (f : Nat → Int) (d : Nat) {i : Nat} (hi : i < 4) : mk 4 (fun c => viewF f d (i * 4 + c)) = mk 4 (lineF f d i) :=
  mk_congr fun c hc => by unfold viewF lineF; rw [show (i * 4 + c) / 4 = i by omega, show (i * 4 + c) % 4 = c by omega]
end Go.Proofs.Ytphkidkkcknnmaa
