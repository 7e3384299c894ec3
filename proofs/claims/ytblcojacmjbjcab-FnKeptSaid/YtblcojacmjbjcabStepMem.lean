/-
  Steps, and boards behind steps, as the program keeps them: read, written, built, and put at the end of rows. Nothing is proved here of the program's functions.
-/
import Derived.Test.YtblcojacmjbjcabRowsKit
import Derived.Test.YtblcojacmjbjcabStepPlain
import Derived.Test.YtblcojacmjbjcabBaseA
namespace Go.Proofs.Ytblcojacmjbjcab
open Go.RowKit Plain
set_option linter.unusedVariables false
set_option linter.unusedSimpArgs false
theorem sizeT : (Try.prog.info? 71).map (·.size) = some 4 := by kernel_rfl
theorem execAT {o : Oper} {ev : Operand → Value} {w : World} {b n off : Nat} {f : Nat → Int} {x : Operand} (hg : CAt w b n f) (hm : off + 4 ≤ n) (ho : o.op = .load 71 x) (hx : ev x = .pointer (some ⟨b, off, none⟩)) :
    (execOp ev o).run Try.prog w = .ok (.value (.agg (mk 4 (fun i => f (off + i))))) w := exec_load_at _ x ho hx hg hm Try.underlying71 rfl sizeT
theorem execAC {o : Oper} {ev : Operand → Value} {w : World} {b n off : Nat} {f : Nat → Int} {x : Operand} (hg : CAt w b n f) (hm : off + 2 ≤ n) (ho : o.op = .load 42 x) (hx : ev x = .pointer (some ⟨b, off, none⟩)) :
    (execOp ev o).run Try.prog w = .ok (.value (.agg (mk 2 (fun i => f (off + i))))) w := exec_load_at _ x ho hx hg hm Try.underlying42 rfl sizeC
theorem infoT : (Try.prog.info? 71).map (fun i => (i.zero, i.size, i.bytes)) = some (some (.agg (mk 4 fun _ => 0)), 4, 32) := by kernel_rfl
/-- A part of a block is read under a guard that is met. -/
theorem wpList_load_partg {P : Program} {ops : Array Oper} {rest : List Oper} {o : Oper} {a : Act} {w : World} {Q : Exit → Act → World → Prop} (hw : Region.wanted o (yielded ops a.tmps) = true) (ty : TypeId) (x : Operand) (ho : o.op = .load ty x) (b n off m : Nat) (f : Nat → Int) (t : TypeId) (d : TypeDesc)
    (hx : a.eval x = .pointer (some ⟨b, off, none⟩)) (hg : Blk w b n f t) (hm : off + m ≤ n)
    (hu : P.underlying ty = some d) (hd : d.isRow = true) (hi : (P.info? ty).map (·.size) = some m)
    (h : wpList P ops Q rest (a.put o.dst (.agg (mk m (fun i => f (off + i))))) w) : wpList P ops Q (o :: rest) a w :=
  wpList_step fun _ hK => by
    rw [if_pos hw]
    exact wp_load_mid ty x ho b off hx _ d (hg.range off m hm) hu hd (by rw [mk_len]; exact hi) (by rw [Array.toArray_toList]; exact hK _ _ h)
theorem loadPgC {ops : Array Oper} {rest : List Oper} {o : Oper} {a : Act} {w : World} {Q : Exit → Act → World → Prop} {x : Operand} {b n off : Nat} {f : Nat → Int} {t : TypeId}
    (hg : Blk w b n f t) (hm : off + 2 ≤ n) (hw : Region.wanted o (yielded ops a.tmps) = true) (ho : o.op = .load 42 x) (hx : a.eval x = .pointer (some ⟨b, off, none⟩))
    (h : wpList Try.prog ops Q rest (a.put o.dst (.agg (mk 2 (fun i => f (off + i))))) w) : wpList Try.prog ops Q (o :: rest) a w :=
  wpList_load_partg hw _ x ho b n off 2 f t _ hx hg hm Try.underlying42 rfl sizeC h
/-- A step of its parts. -/
def stepF (d : Int) (g : Nat → Int) (t : Int) : Nat → Int := fun j => if j = 0 then d else if j = 1 then g 0 else if j = 2 then g 1 else t
theorem run_buildT (d t : Int) (g : Nat → Int) (w : World) : (Instr.build 71 #[(0, .int .i64 d), (1, .agg (mk 2 g)), (2, .int .i64 t)]).run Try.prog w = .ok (.agg (mk 4 (stepF d g t))) w := by kernel_rfl
/-- A board behind a step. -/
def nextF (s f : Nat → Int) : Nat → Int := fun j => if j < 4 then s j else f (j - 4)
/-- Two steps, one behind the other. -/
def twoF (s u : Nat → Int) : Nat → Int := fun j => if j < 4 then s j else u (j - 4)
theorem fill_two_at (s u : Nat → Int) (a b c d e f g h : Value) : Instr.fill (fun i => some (i * 4, 4)) #[a, b, c, d, e, f, g, h] [(0, .agg (mk 4 s)), (1, .agg (mk 4 u))] = some (mk 8 (twoF s u)) := by kernel_rfl
theorem fill_two (s u : Nat → Int) (cs : Array Value) (hc : cs.size = 8) : Instr.fill (fun i => some (i * 4, 4)) cs [(0, .agg (mk 4 s)), (1, .agg (mk 4 u))] = some (mk 8 (twoF s u)) := by
  obtain ⟨l⟩ := cs
  have hl : l.length = 8 := by simpa using hc
  match l, hl with
  | [a, b, c, d, e, f, g, h], _ => exact fill_two_at s u a b c d e f g h
theorem exec_stepT {o : Oper} {ev : Operand → Value} {w : World} (x y z : Operand) (ho : o.op = .build 71 #[(0, x), (1, y), (2, z)]) {d t : Int} {g : Nat → Int}
    (hx : ev x = .int .i64 d) (hy : ev y = .agg (mk 2 g)) (hz : ev z = .int .i64 t) : (execOp ev o).run Try.prog w = .ok (.value (.agg (mk 4 (stepF d g t)))) w := by
  have hr := run_buildT d t g w
  simp [execOp, ho, hx, hy, hz, hr, Result.andThen]
theorem wp_buildT2 {w : World} {o : Oper} {a : Act} {K : Act → World → Prop} {Q : Exit → Act → World → Prop} (x y : Operand) (ho : o.op = .buildSlice 63 2 #[(0, x), (1, y)]) {s u : Nat → Int} (hx : a.eval x = .agg (mk 4 s)) (hy : a.eval y = .agg (mk 4 u))
    (h : K (a.put o.dst (.slice (some ⟨w.heap.size, 0, none⟩) 2 2)) (w.alloc (.cells (mk 8 (twoF s u)) 71))) : o.wp Try.prog a w K Q := by
  obtain ⟨i0, hi, hz0, hz1, hz2⟩ := info_parts infoT
  refine Go.wp_buildSlice 63 71 2 #[(0, x), (1, y)] ho (mk 8 (twoF s u)) i0 _ Try.underlying63 hi hz0 (by rw [hz1]; decide) (by rw [hz1]; decide) ?_ h
  rw [hz1]
  have e : (Array.map (fun (p : Nat × Operand) => (p.1, a.eval p.2)) #[(0, x), (1, y)]).toList = [(0, .agg (mk 4 s)), (1, .agg (mk 4 u))] := by simp [hx, hy]
  show Instr.fill _ _ (Array.map (fun (p : Nat × Operand) => (p.1, a.eval p.2)) #[(0, x), (1, y)]).toList = _
  rw [e]
  exact fill_two s u _ (by simp)
theorem wp_allocX {w : World} {o : Oper} {a : Act} {K : Act → World → Prop} {Q : Exit → Act → World → Prop} (ho : o.op = .alloc 47)
    (h : K (a.put o.dst (.pointer (some ⟨w.heap.size, 0, none⟩))) (w.alloc (.cells (mk 16 fun _ => 0) 47))) : o.wp Try.prog a w K Q := by
  have z16 := zero16
  unfold Oper.wp
  go_simp
  exact h
theorem grown_row {w : World} {b n : Nat} {f : Nat → Int} {t : TypeId} (k : Blk w b n f t) (cs : Array Value) : w.grownBy (w.setRow b cs) (some b) := by
  refine ⟨rfl, rfl, rfl, ?_, fun j hj hne => ?_⟩
  · simp [World.setRow]
  · exact setRow_other w b j cs (fun e => hne (by rw [e]))
end Go.Proofs.Ytblcojacmjbjcab
