/-
  The contract of the reference's draw of a board, a side and a line's number.
-/
import Derived.Test.YtpiegllffkjneaaDrawCell
import Derived.Deep.RegionHeld3
namespace Go.Proofs.Ytpiegllffkjneaa
open Go.RowKit Plain
attribute [local go_sem] Oper.semAt_some
set_option linter.unusedSimpArgs false

set_option maxHeartbeats 1000000 in
set_option maxRecDepth 20000 in
theorem drawLineOf_any (a : Option Addr) (len cap : Nat) (w : World) (hl : len ≤ 65536) (hr : CodeRow w a len w.heap.size) :
    Calls Try.prog 46 #[.slice a len cap] w fun e w' => ∃ (f : Nat → Int) (k i : Int), e = .returned (.tuple #[.agg (mk 16 f), .int .i64 k, .int .i64 i]) ∧ Below w.heap.size w w' := by
  have z16 := zero16
  have K2 := (Blk.new w 16 (fun _ => 0) 27).alloc (.cells #[.slice a len cap, .int .i64 0, .int .u64 0] 97)
  have hr1 := hr.later ((Below.refl _ w).alloc (Nat.le_refl _) (.cells (mk 16 fun _ => 0) 27))
  have HC := Lib.hid (Cur.new (w.alloc (.cells (mk 16 fun _ => 0) 27)) a len cap hl hr1)
  have hs : (w.alloc (.cells (mk 16 fun _ => 0) 27)).heap.size = w.heap.size + 1 := by simp
  rw [hs] at HC
  clear hr hr1
  go_enter Try.func46, Try.ntmps46
  go_wp2_with fail
  refine (board_any _ (w.heap.size + 1) 0 HC.out (by omega)).mono ?_
  rintro e w2 ⟨f, rfl, hc2, ht2⟩
  have K2 := K2.turned ht2 (by omega)
  have HC := Lib.hid hc2
  have HT := Lib.hid ht2
  clear hc2 ht2
  go_wp2_with fail
  refine (side_any _ (w.heap.size + 1) _ HC.out (by omega)).mono ?_
  rintro e w3 ⟨k, rfl, hc2, ht2⟩
  have K2 := K2.turned ht2 (by omega)
  have HC := Lib.hid hc2
  have HT := Lib.hid (HT.out.trans ht2)
  clear hc2 ht2
  go_wp2_with fail
  refine (pick_any _ (w.heap.size + 1) _ 4 HC.out (by omega) (by omega) (by omega)).mono ?_
  rintro e w4 ⟨x, hx, rfl, hc2, ht2⟩
  have K2 := K2.turned ht2 (by omega)
  have HC := Lib.hid hc2
  have HT := Lib.hid (HT.out.trans ht2)
  clear hc2 ht2
  go_wp2_with fail
  refine (pick_any _ (w.heap.size + 1) _ 24 HC.out (by omega) (by omega) (by omega)).mono ?_
  rintro e w5 ⟨y, hy, rfl, hc2, ht2⟩
  have K2 := K2.turned ht2 (by omega)
  have HC := Lib.hid hc2
  have HT := Lib.hid (HT.out.trans ht2)
  clear hc2 ht2
  go_wp2_with fail
  refine (pick_any _ (w.heap.size + 1) _ 24 HC.out (by omega) (by omega) (by omega)).mono ?_
  rintro e w6 ⟨z, hz, rfl, hc2, ht2⟩
  have K2 := K2.turned ht2 (by omega)
  have HC := Lib.hid hc2
  have HT := Lib.hid (HT.out.trans ht2)
  clear hc2 ht2
  go_wp2_with ((with_reducible show wpList _ _ _ (Oper.mk _ (Op.store 27 _ _) _ _ _ _ :: _) _ _); refine storeB (K2) rfl rfl rfl rfl ?_)
  try simp only [Exit.inBlock, Exit.then]
  exact retcttB (K2.row 16 _) rfl rfl rfl ⟨f, k, _, rfl, below_setRow (below_two rfl HT.out) (Nat.le_refl _) _⟩
end Go.Proofs.Ytpiegllffkjneaa
