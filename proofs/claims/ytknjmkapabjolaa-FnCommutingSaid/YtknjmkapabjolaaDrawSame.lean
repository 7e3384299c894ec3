/-
  The contracts of the reference's draws of FirstForm and AreSameForm: some boards come out, and nothing that lay there before turns.
-/
import Derived.Test.YtknjmkapabjolaaDrawPut
import Derived.Test.YtknjmkapabjolaaSpecMade
import Derived.Deep.RegionHeld3
namespace Go.Proofs.Ytknjmkapabjolaa
open Go.RowKit Plain
attribute [local go_sem] Oper.semAt_some store_new
set_option linter.unusedSimpArgs false
set_option linter.unusedVariables false

set_option maxHeartbeats 400000 in
theorem drawFirstForm_any (a : Option Addr) (len cap : Nat) (w : World) (hl : len ≤ 65536) (hr : CodeRow w a len w.heap.size) :
    Calls Try.prog 89 #[.slice a len cap] w fun e w' => ∃ f : Nat → Int, e = .returned (.agg (mk 16 f)) ∧ Below w.heap.size w w' := by
  have z16 := zero16
  have K2 := (Blk.new w 16 (fun _ => 0) 29).alloc (.cells #[.slice a len cap, .int .i64 0, .int .u64 0] 108)
  have hr1 := hr.later ((Below.refl _ w).alloc (Nat.le_refl _) (.cells (mk 16 fun _ => 0) 29))
  have HC := Lib.hid (Cur.new (w.alloc (.cells (mk 16 fun _ => 0) 29)) a len cap hl hr1)
  have hs : (w.alloc (.cells (mk 16 fun _ => 0) 29)).heap.size = w.heap.size + 1 := by simp
  rw [hs] at HC
  clear hr hr1
  go_enter Try.func89, Try.ntmps89
  go_wp2_with fail
  refine (formed3_any _ (w.heap.size + 1) 0 HC.out (by omega)).mono ?_
  rintro e w2 ⟨f, rfl, hc2, ht2⟩
  have K2 := K2.turned ht2 (by omega)
  have HT := Lib.hid ht2
  clear hc2 ht2
  go_wp2_with ((with_reducible show wpList _ _ _ (Oper.mk _ (Op.store 29 _ _) _ _ _ _ :: _) _ _); refine storeB (K2) rfl rfl rfl rfl ?_)
  try simp only [Exit.inBlock, Exit.then]
  exact retcB (K2.row 16 _) rfl rfl rfl ⟨f, rfl, below_setRow (below_two rfl HT.out) (Nat.le_refl _) _⟩

end Go.Proofs.Ytknjmkapabjolaa
