/-
  Laws for regions that draw their order, walked by hand: a whole block of integers is read in every world that meets a condition. Nothing is proved here of the program's functions.
-/
import Derived.Test.YtpiegllffkjneaaTypes
import Derived.Deep.RegionHeld3
namespace Go.Proofs.Ytpiegllffkjneaa
open Go.RowKit Plain
section
variable {P : Program}
theorem exec_load_blk {o : Oper} {ev : Operand → Value} {w : World} {b n : Nat} {f : Nat → Int} {t : TypeId} {d : TypeDesc} (ty : TypeId) (x : Operand) (ho : o.op = .load ty x)
    (hx : ev x = .pointer (some ⟨b, 0, none⟩)) (hg : Blk w b n f t) (hu : P.underlying ty = some d) (hd : d.isRow = true) (hi : (P.info? ty).map (·.size) = some n) :
    (execOp ev o).run P w = .ok (.value (.agg (mk n f))) w := by
  unfold execOp
  simp only [ho, hx, Instr.loadAt, Instr.sureAddr, Sem.run_bind, Sem.run_pure, Result.andThen_ok, run_load_blk hg hu hd hi]
end
theorem execB {o : Oper} {ev : Operand → Value} {w : World} {b : Nat} {f : Nat → Int} {t : TypeId} {x : Operand} (hg : Blk w b 16 f t) (ho : o.op = .load 27 x) (hx : ev x = .pointer (some ⟨b, 0, none⟩)) :
    (execOp ev o).run Try.prog w = .ok (.value (.agg (mk 16 f))) w := exec_load_blk _ x ho hx hg Try.underlying27 rfl sizeB
theorem execC {o : Oper} {ev : Operand → Value} {w : World} {b : Nat} {f : Nat → Int} {t : TypeId} {x : Operand} (hg : Blk w b 2 f t) (ho : o.op = .load 49 x) (hx : ev x = .pointer (some ⟨b, 0, none⟩)) :
    (execOp ev o).run Try.prog w = .ok (.value (.agg (mk 2 f))) w := exec_load_blk _ x ho hx hg Try.underlying49 rfl sizeC
end Go.Proofs.Ytpiegllffkjneaa
