/-
  The contract of the program's PutTile, for every board, every cell and every number.
-/
import Derived.Test.YtkocfpldgjfpeaaBaseA
import Derived.Test.YtkocfpldgjfpeaaPlainA
namespace Go.Proofs.Ytkocfpldgjfpeaa
open Go.RowKit Plain
attribute [local go_sem] store_new
set_option linter.unusedSimpArgs false

theorem put_step {w W W' : World} {f g : Nat → Int} {t u : TypeId} (h : Blk W w.heap.size 16 f t ∧ Blk W (w.heap.size + 1) 2 g u ∧ Blk W (w.heap.size + 1 + 1) 16 (fun _ => 0) t ∧ Below w.heap.size w W) (hb : Below W.heap.size W W') : Blk W' w.heap.size 16 f t ∧ Blk W' (w.heap.size + 1) 2 g u ∧ Blk W' (w.heap.size + 1 + 1) 16 (fun _ => 0) t ∧ Below w.heap.size w W' :=
  ⟨h.1.below hb h.1.lt, h.2.1.below hb h.2.1.lt, h.2.2.1.below hb h.2.2.1.lt, h.2.2.2.trans (hb.mono h.2.2.2.size)⟩
end Go.Proofs.Ytkocfpldgjfpeaa
