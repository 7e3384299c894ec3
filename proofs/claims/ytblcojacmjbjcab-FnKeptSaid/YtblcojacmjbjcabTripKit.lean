/-
  Placements as the program keeps them: three numbers, read, written and built; rows of them, and the laws' own conversions and comparisons. No condition.
-/
import Derived.Test.YtblcojacmjbjcabBaseA
import Derived.Test.YtblcojacmjbjcabRowsKit
import Derived.Test.YtblcojacmjbjcabWorstPlain
import Derived.Test.YtblcojacmjbjcabCellA
namespace Go.Proofs.Ytblcojacmjbjcab
open Go.RowKit Plain
attribute [local go_sem] store_new
set_option linter.unusedVariables false
set_option linter.unusedSimpArgs false
theorem zero3 : (#[.int .i64 0, .int .i64 0, .int .i64 0] : Array Value) = mk 3 (fun _ => 0) := rfl
/-- Three numbers. -/
def tri (a b c : Int) : Nat → Int := fun j => if j = 0 then a else if j = 1 then b else c
theorem run_buildA (a b c : Int) (w : World) : (Instr.build 254 #[(0, .int .i64 a), (1, .int .i64 b), (2, .int .i64 c)]).run Try.prog w = .ok (.agg (mk 3 (tri a b c))) w := by kernel_rfl
theorem exec_buildA {o : Oper} {ev : Operand → Value} {w : World} (x y z : Operand) (ho : o.op = .build 254 #[(0, x), (1, y), (2, z)]) {a b c : Int}
    (hx : ev x = .int .i64 a) (hy : ev y = .int .i64 b) (hz : ev z = .int .i64 c) : (execOp ev o).run Try.prog w = .ok (.value (.agg (mk 3 (tri a b c)))) w := by
  have hr := run_buildA a b c w
  simp [execOp, ho, hx, hy, hz, hr, Result.andThen]
/-- Two placements, one behind the other. -/
def two3 (s u : Nat → Int) : Nat → Int := fun j => if j < 3 then s j else u (j - 3)
/-- The cells that a row owns, told by the empty ones of a board. -/
theorem empties_at {w : World} {base g cap n : Nat} {f : Nat → Int} (h : OwnsCells w base (.slice (some ⟨g, 0, none⟩) n cap) n (empL f 16)) (hn : n = empN f 16 := by rfl) : CAt w g (n * 2) (empF f) := by
  subst hn
  have hl := emp_len f 16
  unfold OwnsCells at h
  rw [ints_mk, hl] at h
  obtain ⟨g', c', e, _, hc⟩ := CRow.of_own h
  cases e
  exact hc
/-- The slice value v owns a row of n lists. -/
def OwnsM (t : TypeId) (m : Nat) (w : World) (base : Nat) (v : Value) (n : Nat) (L : List (List Int)) : Prop := w.ownsRow base t m v n (L.flatten.map (Value.int .i64))
end Go.Proofs.Ytblcojacmjbjcab
