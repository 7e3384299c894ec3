/-
  The laws of whole aggregates of integers that are read under a guard that is met. Nothing is proved here of the program's functions.
-/
import Derived.Test.YtpiegllffkjneaaTypes
namespace Go.Proofs.Ytpiegllffkjneaa
open Go.RowKit Plain
section
variable {P : Program} {ops : Array Oper} {rest : List Oper} {o : Oper} {a : Act} {w : World} {Q : Exit → Act → World → Prop}
theorem wpList_load_guarded (hw : Region.wanted o (yielded ops a.tmps) = true) (ty : TypeId) (x : Operand) (ho : o.op = .load ty x) (b n : Nat) (f : Nat → Int) (t : TypeId) (d : TypeDesc)
    (hx : a.eval x = .pointer (some ⟨b, 0, none⟩)) (hg : Blk w b n f t)
    (hu : P.underlying ty = some d) (hd : d.isRow = true) (hi : (P.info? ty).map (·.size) = some n)
    (h : wpList P ops Q rest (a.put o.dst (.agg (mk n f))) w) : wpList P ops Q (o :: rest) a w :=
  wpList_step fun _ hK => by
    rw [if_pos hw]
    exact wp_load_row ty x ho b hx t _ _ d hg hu (by cases d <;> first | rfl | exact hd) (by rw [mk_size]; exact hi) (hK _ _ h)
end
theorem loadgB {ops : Array Oper} {rest : List Oper} {o : Oper} {a : Act} {w : World} {Q : Exit → Act → World → Prop} {x : Operand} {b : Nat} {f : Nat → Int} {t : TypeId}
    (hg : Blk w b 16 f t) (hw : Region.wanted o (yielded ops a.tmps) = true) (ho : o.op = .load 27 x) (hx : a.eval x = .pointer (some ⟨b, 0, none⟩))
    (h : wpList Try.prog ops Q rest (a.put o.dst (.agg (mk 16 f))) w) : wpList Try.prog ops Q (o :: rest) a w :=
  wpList_load_guarded hw _ x ho b 16 f t _ hx hg Try.underlying27 rfl sizeB h
theorem loadgC {ops : Array Oper} {rest : List Oper} {o : Oper} {a : Act} {w : World} {Q : Exit → Act → World → Prop} {x : Operand} {b : Nat} {f : Nat → Int} {t : TypeId}
    (hg : Blk w b 2 f t) (hw : Region.wanted o (yielded ops a.tmps) = true) (ho : o.op = .load 49 x) (hx : a.eval x = .pointer (some ⟨b, 0, none⟩))
    (h : wpList Try.prog ops Q rest (a.put o.dst (.agg (mk 2 f))) w) : wpList Try.prog ops Q (o :: rest) a w :=
  wpList_load_guarded hw _ x ho b 2 f t _ hx hg Try.underlying49 rfl sizeC h
end Go.Proofs.Ytpiegllffkjneaa
