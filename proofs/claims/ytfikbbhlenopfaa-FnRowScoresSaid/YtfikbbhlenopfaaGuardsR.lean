/-
  The law of a whole row of four integers that is read under a guard that is met. Nothing is proved here of the program's functions.
-/
import Derived.Test.YtfikbbhlenopfaaGuards
namespace Go.Proofs.Ytfikbbhlenopfaa
open Go.RowKit Plain
theorem loadgR {ops : Array Oper} {rest : List Oper} {o : Oper} {a : Act} {w : World} {Q : Exit → Act → World → Prop} {x : Operand} {b : Nat} {f : Nat → Int} {t : TypeId}
    (hg : Blk w b 4 f t) (hw : Region.wanted o (yielded ops a.tmps) = true) (ho : o.op = .load 24 x) (hx : a.eval x = .pointer (some ⟨b, 0, none⟩))
    (h : wpList Try.prog ops Q rest (a.put o.dst (.agg (mk 4 f))) w) : wpList Try.prog ops Q (o :: rest) a w :=
  wpList_load_guarded hw _ x ho b 4 f t _ hx hg Try.underlying24 rfl sizeR h
end Go.Proofs.Ytfikbbhlenopfaa
