/-
  The contract of the reference's l3Add: a board put to its place in a row of boards.
-/
import Derived.Test.YtkocfpldgjfpeaaRowsKit
import Derived.Test.YtkocfpldgjfpeaaBefore
namespace Go.Proofs.Ytkocfpldgjfpeaa
open Go.RowKit Plain
attribute [local go_sem] Oper.semAt_some
set_option linter.unusedVariables false
set_option linter.unusedSimpArgs false

theorem heldA_step {w W w6 : World} {b c n m : Nat} {h f : Nat → Int} {t : TypeId} (q : CAt W b n h ∧ Blk W c m f t ∧ Below w.heap.size w W) (hb : Below W.heap.size W w6) : CAt w6 b n h ∧ Blk w6 c m f t ∧ Below w.heap.size w w6 :=
  ⟨q.1.below hb, q.2.1.below hb q.2.1.lt, q.2.2.trans (hb.mono q.2.2.size)⟩
theorem lt_less {L : List (List Int)} (ha : AllL 16 L) {k : Nat} {l : List Int} (h : L[k]? = some l) (f : Nat → Int) : lt 16 l (cl 16 f) = lessB (fun j => flatF L (k * 16 + j)) f := by
  unfold lt lessB
  rw [Bool.eq_iff_iff, decide_eq_true_iff, decide_eq_true_iff]
  exact lessN_congr (fun i hi => (flatF_at ha h hi).symm) (fn_cl f)
theorem eq_same {L : List (List Int)} (ha : AllL 16 L) {k : Nat} {l : List Int} (h : L[k]? = some l) (f : Nat → Int) : l = cl 16 f ↔ sameB (fun j => flatF L (k * 16 + j)) f = true := by
  rw [sameB_iff, ← cl_fn (ha l (List.mem_of_getElem? h)), cl_inj]
  constructor
  · intro e i hi; rw [flatF_at ha h hi]; exact e i hi
  · intro e i hi; rw [← flatF_at ha h hi]; exact e i hi
theorem infoBoard : (Try.prog.info? 29).map (fun i => (i.zero, i.size, i.bytes)) = some (some (.agg (mk 16 fun _ => 0)), 16, 128) := by kernel_rfl

end Go.Proofs.Ytkocfpldgjfpeaa
