/-
  Plain facts on the numbers of cells that must or can have merged. No program stands in this text.
-/
import Derived.Test.YtphkidkkcknnmaaPreMerge
namespace Go.Proofs.Ytphkidkkcknnmaa.Plain
theorem mm_len (s : Bool) (f : Nat → Int) (d : Int) : (mmL s f d).length = mmN s f d * 2 := by
  unfold mmL mmN; split
  · exact ce_len _ 16
  · rfl
theorem mmN_le (s : Bool) (f : Nat → Int) (d : Int) : mmN s f d ≤ 16 := by
  unfold mmN; split
  · exact ceN_le _ 16
  · omega
end Go.Proofs.Ytphkidkkcknnmaa.Plain
