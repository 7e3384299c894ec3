/-
  The contracts of the reference's draws of boards that are nearly over, and of steps: tight5, step5, DrawStepsOf, DrawDoStep, DrawStepBetween.
-/
import Derived.Test.YtlboglcpbbnbcabDrawsA
import Derived.Test.YtlboglcpbbnbcabDrawCell
import Derived.Test.YtlboglcpbbnbcabSpecNext
import Derived.Test.YtlboglcpbbnbcabSpecLine
namespace Go.Proofs.Ytlboglcpbbnbcab
open Go.RowKit Plain
attribute [local go_sem] store_new
set_option linter.unusedSimpArgs false
set_option linter.unusedVariables false

theorem turned_of {B : Nat} {w w' : World} (hb : Below w.heap.size w w') : Turned B w w' := ⟨hb.os, hb.tape, hb.output, hb.size, fun k hk _ => hb.block k hk⟩
theorem run_two (a b : Int) (w : World) : (Instr.build 61 #[(0, .int .i64 a), (1, .int .i64 b)]).run Try.prog w = .ok (.agg (mk 2 (two a b))) w := by kernel_rfl
theorem exec_two {o : Oper} {ev : Operand → Value} {w : World} (x y : Operand) (ho : o.op = .build 61 #[(0, x), (1, y)]) {a b : Int}
    (hx : ev x = .int .i64 a) (hy : ev y = .int .i64 b) : (execOp ev o).run Try.prog w = .ok (.value (.agg (mk 2 (two a b)))) w := by
  have hr := run_two a b w
  simp [execOp, ho, hx, hy, hr, Result.andThen]
theorem wp_ldB {o : Oper} {a : Act} {w : World} {K : Act → World → Prop} {Q : Exit → Act → World → Prop} {x : Operand} {b : Nat} {f : Nat → Int} {t : TypeId} (hg : Blk w b 16 f t) (ho : o.op = .load 29 x) (hx : a.eval x = .pointer (some ⟨b, 0, none⟩))
    (h : K (a.put o.dst (.agg (mk 16 f))) w) : o.wp Try.prog a w K Q :=
  wp_load_row _ x ho b hx t _ _ _ hg Try.underlying29 rfl (by rw [mk_size]; exact sizeB) h
/-- Five numbers in a new row. -/
def Five (W : World) (g : Nat) : Prop := ∀ j, j < 5 → ∃ v, W.cell? ⟨g, j, none⟩ = some v ∧ ∃ t, v = .int .i64 t ∧ True
theorem five_new (W : World) (a b c d e : Int) (t : TypeId) : Five (W.alloc (.cells #[.int .i64 a, .int .i64 b, .int .i64 c, .int .i64 d, .int .i64 e] t)) W.heap.size := by
  intro j hj
  refine alloc_all W _ _ (fun v => ∃ t, v = .int .i64 t ∧ True) ?_ j hj
  intro v hv
  simp at hv
  rcases hv with rfl | rfl | rfl | rfl | rfl <;> exact ⟨_, rfl, trivial⟩
theorem five_turned {W W' : World} {B g : Nat} (h : Five W g) (ht : Turned B W W') (hg : g ≠ B) : Five W' g := fun j hj => by
  obtain ⟨v, hv, hx⟩ := h j hj
  exact ⟨v, ht.cell hv hg, hx⟩
/-- While a board is drawn and changed: the drawer, the result's block, the board's block. -/
def TS (w : World) (B m b3 : Nat) (F : Nat → Int) (W : World) : Prop := Dr w B m W ∧ Blk W w.heap.size 16 (fun _ => 0) 29 ∧ Blk W b3 16 F 29 ∧ w.heap.size < b3
section
variable {w W W' : World} {B m m' b3 : Nat} {F : Nat → Int}
theorem TS.call (h : TS w B m b3 F W) (hc : Cur W' B m') (ht : Turned B W W') : TS w B m' b3 F W' := by
  obtain ⟨h1, h2, h3, h4⟩ := h
  have := h1.2.2
  exact ⟨h1.call hc ht, h2.turned ht (by omega), h3.turned ht (by omega), h4⟩
theorem TS.below (h : TS w B m b3 F W) (hb : Below W.heap.size W W') : TS w B m b3 F W' := h.call (h.1.1.kept hb) (turned_of hb)
theorem TS.alloc (h : TS w B m b3 F W) (o : Obj) : TS w B m b3 F (W.alloc o) := by
  obtain ⟨h1, h2, h3, h4⟩ := h
  exact ⟨h1.alloc o, h2.alloc o, h3.alloc o, h4⟩
theorem TS.set (h : TS w B m b3 F W) {i : Nat} (hi : i < 16) (v : Int) : TS w B m b3 (upd F i v) (W.setCell ⟨b3, i, none⟩ (.int .i64 v)) := by
  obtain ⟨h1, h2, h3, h4⟩ := h
  exact ⟨h1.set (by dsimp only; omega) _, h2.setOther _ _ (by dsimp only; omega), h3.set hi v, h4⟩
theorem TS.put (h : TS w B m b3 F W) (g : Nat → Int) : TS w B m b3 g (W.setRow b3 (mk 16 g)) := by
  obtain ⟨h1, h2, h3, h4⟩ := h
  exact ⟨h1.row (by omega) _, h2.rowOther _ _ (by omega), h3.row 16 g, h4⟩
theorem TS.drew (h : TS w B m b3 F W) : TS w B m b3 F W.drew := by
  obtain ⟨h1, h2, h3, h4⟩ := h
  exact ⟨h1.drew, h2.drew, h3.drew, h4⟩
end
end Go.Proofs.Ytlboglcpbbnbcab
