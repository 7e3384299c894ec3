/-
  Steps, and boards behind steps, as the program keeps them: read, written, built, and put at the end of rows. Nothing is proved here of the program's functions.
-/
import Derived.Test.YtfjpdopljmilpaaRowsKit
import Derived.Test.YtfjpdopljmilpaaStepPlain
import Derived.Test.YtfjpdopljmilpaaBaseA
namespace Go.Proofs.Ytfjpdopljmilpaa
open Go.RowKit Plain
set_option linter.unusedVariables false
set_option linter.unusedSimpArgs false
theorem sizeT : (Try.prog.info? 52).map (·.size) = some 4 := by kernel_rfl
theorem loadT {ops : Array Oper} {rest : List Oper} {o : Oper} {a : Act} {w : World} {Q : Exit → Act → World → Prop} {x : Operand} {b : Nat} {f : Nat → Int} {t : TypeId}
    (hg : Blk w b 4 f t) (hgd : o.guard = none) (ho : o.op = .load 52 x) (hx : a.eval x = .pointer (some ⟨b, 0, none⟩))
    (h : wpList Try.prog ops Q rest (a.put o.dst (.agg (mk 4 f))) w) : wpList Try.prog ops Q (o :: rest) a w :=
  wpList_load_blk hgd _ x ho b 4 f t _ hx hg Try.underlying52 rfl sizeT h
theorem storeT {ops : Array Oper} {rest : List Oper} {o : Oper} {a : Act} {w : World} {Q : Exit → Act → World → Prop} {x y : Operand} {b : Nat} {f g : Nat → Int} {t : TypeId}
    (hg : Blk w b 4 f t) (hgd : o.guard = none) (ho : o.op = .store 52 x y) (hx : a.eval x = .pointer (some ⟨b, 0, none⟩)) (hy : a.eval y = .agg (mk 4 g))
    (h : wpList Try.prog ops Q rest (a.put o.dst undef) (w.setRow b (mk 4 g))) : wpList Try.prog ops Q (o :: rest) a w :=
  wpList_store_blk hgd _ x y ho b 4 f g t hx hy hg sizeT h
theorem loadPT {ops : Array Oper} {rest : List Oper} {o : Oper} {a : Act} {w : World} {Q : Exit → Act → World → Prop} {x : Operand} {b n off : Nat} {f : Nat → Int} {t : TypeId}
    (hg : Blk w b n f t) (hm : off + 4 ≤ n) (hgd : o.guard = none) (ho : o.op = .load 52 x) (hx : a.eval x = .pointer (some ⟨b, off, none⟩))
    (h : wpList Try.prog ops Q rest (a.put o.dst (.agg (mk 4 (fun i => f (off + i))))) w) : wpList Try.prog ops Q (o :: rest) a w :=
  wpList_load_part hgd _ x ho b n off 4 f t _ hx hg hm Try.underlying52 rfl sizeT h
theorem storePT {ops : Array Oper} {rest : List Oper} {o : Oper} {a : Act} {w : World} {Q : Exit → Act → World → Prop} {x y : Operand} {b n off : Nat} {f g : Nat → Int} {t : TypeId}
    (hg : Blk w b n f t) (hm : off + 4 ≤ n) (hgd : o.guard = none) (ho : o.op = .store 52 x y) (hx : a.eval x = .pointer (some ⟨b, off, none⟩)) (hy : a.eval y = .agg (mk 4 g))
    (h : wpList Try.prog ops Q rest (a.put o.dst undef) (w.setRow b (mk n (patch f off 4 g)))) : wpList Try.prog ops Q (o :: rest) a w :=
  wpList_store_part hgd _ x y ho b n off 4 f g t hx hy hg hm sizeT h
theorem retcT {fn : Func} {R : Ending → World → Prop} {a : Act} {w : World} {p : Tmp} {t : TypeId} {b : Nat} {f : Nat → Int}
    (hg : Blk w b 4 f t) (h : fn.results = #[.cell p 52]) (hp : a.tmps.getD p undef = .pointer (some ⟨b, 0, none⟩)) (hdf : a.defers = [])
    (hR : R (.returned (.agg (mk 4 f))) w) : bodyPost Try.prog fn R .ret a w := ret_c Try.underlying52 rfl sizeT h hp hdf hg hR
theorem retctT {fn : Func} {R : Ending → World → Prop} {a : Act} {w : World} {p q : Tmp} {t : TypeId} {b : Nat} {f : Nat → Int}
    (hg : Blk w b 4 f t) (h : fn.results = #[.cell p 52, .tmp q]) (hp : a.tmps.getD p undef = .pointer (some ⟨b, 0, none⟩)) (hdf : a.defers = [])
    (hR : R (.returned (.tuple #[.agg (mk 4 f), a.tmps.getD q undef])) w) : bodyPost Try.prog fn R .ret a w := ret_ct Try.underlying52 rfl sizeT h hp hdf hg hR
theorem retcttT {fn : Func} {R : Ending → World → Prop} {a : Act} {w : World} {p q r : Tmp} {t : TypeId} {b : Nat} {f : Nat → Int}
    (hg : Blk w b 4 f t) (h : fn.results = #[.cell p 52, .tmp q, .tmp r]) (hp : a.tmps.getD p undef = .pointer (some ⟨b, 0, none⟩)) (hdf : a.defers = [])
    (hR : R (.returned (.tuple #[.agg (mk 4 f), a.tmps.getD q undef, a.tmps.getD r undef])) w) : bodyPost Try.prog fn R .ret a w := ret_ctt Try.underlying52 rfl sizeT h hp hdf hg hR
theorem sizeX : (Try.prog.info? 175).map (·.size) = some 20 := by kernel_rfl
theorem loadX {ops : Array Oper} {rest : List Oper} {o : Oper} {a : Act} {w : World} {Q : Exit → Act → World → Prop} {x : Operand} {b : Nat} {f : Nat → Int} {t : TypeId}
    (hg : Blk w b 20 f t) (hgd : o.guard = none) (ho : o.op = .load 175 x) (hx : a.eval x = .pointer (some ⟨b, 0, none⟩))
    (h : wpList Try.prog ops Q rest (a.put o.dst (.agg (mk 20 f))) w) : wpList Try.prog ops Q (o :: rest) a w :=
  wpList_load_blk hgd _ x ho b 20 f t _ hx hg Try.underlying175 rfl sizeX h
theorem storeX {ops : Array Oper} {rest : List Oper} {o : Oper} {a : Act} {w : World} {Q : Exit → Act → World → Prop} {x y : Operand} {b : Nat} {f g : Nat → Int} {t : TypeId}
    (hg : Blk w b 20 f t) (hgd : o.guard = none) (ho : o.op = .store 175 x y) (hx : a.eval x = .pointer (some ⟨b, 0, none⟩)) (hy : a.eval y = .agg (mk 20 g))
    (h : wpList Try.prog ops Q rest (a.put o.dst undef) (w.setRow b (mk 20 g))) : wpList Try.prog ops Q (o :: rest) a w :=
  wpList_store_blk hgd _ x y ho b 20 f g t hx hy hg sizeX h
theorem loadPX {ops : Array Oper} {rest : List Oper} {o : Oper} {a : Act} {w : World} {Q : Exit → Act → World → Prop} {x : Operand} {b n off : Nat} {f : Nat → Int} {t : TypeId}
    (hg : Blk w b n f t) (hm : off + 20 ≤ n) (hgd : o.guard = none) (ho : o.op = .load 175 x) (hx : a.eval x = .pointer (some ⟨b, off, none⟩))
    (h : wpList Try.prog ops Q rest (a.put o.dst (.agg (mk 20 (fun i => f (off + i))))) w) : wpList Try.prog ops Q (o :: rest) a w :=
  wpList_load_part hgd _ x ho b n off 20 f t _ hx hg hm Try.underlying175 rfl sizeX h
theorem storePX {ops : Array Oper} {rest : List Oper} {o : Oper} {a : Act} {w : World} {Q : Exit → Act → World → Prop} {x y : Operand} {b n off : Nat} {f g : Nat → Int} {t : TypeId}
    (hg : Blk w b n f t) (hm : off + 20 ≤ n) (hgd : o.guard = none) (ho : o.op = .store 175 x y) (hx : a.eval x = .pointer (some ⟨b, off, none⟩)) (hy : a.eval y = .agg (mk 20 g))
    (h : wpList Try.prog ops Q rest (a.put o.dst undef) (w.setRow b (mk n (patch f off 20 g)))) : wpList Try.prog ops Q (o :: rest) a w :=
  wpList_store_part hgd _ x y ho b n off 20 f g t hx hy hg hm sizeX h
theorem retcX {fn : Func} {R : Ending → World → Prop} {a : Act} {w : World} {p : Tmp} {t : TypeId} {b : Nat} {f : Nat → Int}
    (hg : Blk w b 20 f t) (h : fn.results = #[.cell p 175]) (hp : a.tmps.getD p undef = .pointer (some ⟨b, 0, none⟩)) (hdf : a.defers = [])
    (hR : R (.returned (.agg (mk 20 f))) w) : bodyPost Try.prog fn R .ret a w := ret_c Try.underlying175 rfl sizeX h hp hdf hg hR
theorem retctX {fn : Func} {R : Ending → World → Prop} {a : Act} {w : World} {p q : Tmp} {t : TypeId} {b : Nat} {f : Nat → Int}
    (hg : Blk w b 20 f t) (h : fn.results = #[.cell p 175, .tmp q]) (hp : a.tmps.getD p undef = .pointer (some ⟨b, 0, none⟩)) (hdf : a.defers = [])
    (hR : R (.returned (.tuple #[.agg (mk 20 f), a.tmps.getD q undef])) w) : bodyPost Try.prog fn R .ret a w := ret_ct Try.underlying175 rfl sizeX h hp hdf hg hR
theorem retcttX {fn : Func} {R : Ending → World → Prop} {a : Act} {w : World} {p q r : Tmp} {t : TypeId} {b : Nat} {f : Nat → Int}
    (hg : Blk w b 20 f t) (h : fn.results = #[.cell p 175, .tmp q, .tmp r]) (hp : a.tmps.getD p undef = .pointer (some ⟨b, 0, none⟩)) (hdf : a.defers = [])
    (hR : R (.returned (.tuple #[.agg (mk 20 f), a.tmps.getD q undef, a.tmps.getD r undef])) w) : bodyPost Try.prog fn R .ret a w := ret_ctt Try.underlying175 rfl sizeX h hp hdf hg hR
theorem execAT {o : Oper} {ev : Operand → Value} {w : World} {b n off : Nat} {f : Nat → Int} {x : Operand} (hg : CAt w b n f) (hm : off + 4 ≤ n) (ho : o.op = .load 52 x) (hx : ev x = .pointer (some ⟨b, off, none⟩)) :
    (execOp ev o).run Try.prog w = .ok (.value (.agg (mk 4 (fun i => f (off + i))))) w := exec_load_at _ x ho hx hg hm Try.underlying52 rfl sizeT
theorem loadAT {ops : Array Oper} {rest : List Oper} {o : Oper} {a : Act} {w : World} {Q : Exit → Act → World → Prop} {x : Operand} {b n off : Nat} {f : Nat → Int} (hg : CAt w b n f) (hm : off + 4 ≤ n)
    (hgd : o.guard = none) (ho : o.op = .load 52 x) (hx : a.eval x = .pointer (some ⟨b, off, none⟩))
    (h : wpList Try.prog ops Q rest (a.put o.dst (.agg (mk 4 (fun i => f (off + i))))) w) : wpList Try.prog ops Q (o :: rest) a w :=
  wpList_load_at hgd _ x ho b n off 4 f _ hx hg hm Try.underlying52 rfl sizeT h
theorem execAX {o : Oper} {ev : Operand → Value} {w : World} {b n off : Nat} {f : Nat → Int} {x : Operand} (hg : CAt w b n f) (hm : off + 20 ≤ n) (ho : o.op = .load 175 x) (hx : ev x = .pointer (some ⟨b, off, none⟩)) :
    (execOp ev o).run Try.prog w = .ok (.value (.agg (mk 20 (fun i => f (off + i))))) w := exec_load_at _ x ho hx hg hm Try.underlying175 rfl sizeX
theorem loadAX {ops : Array Oper} {rest : List Oper} {o : Oper} {a : Act} {w : World} {Q : Exit → Act → World → Prop} {x : Operand} {b n off : Nat} {f : Nat → Int} (hg : CAt w b n f) (hm : off + 20 ≤ n)
    (hgd : o.guard = none) (ho : o.op = .load 175 x) (hx : a.eval x = .pointer (some ⟨b, off, none⟩))
    (h : wpList Try.prog ops Q rest (a.put o.dst (.agg (mk 20 (fun i => f (off + i))))) w) : wpList Try.prog ops Q (o :: rest) a w :=
  wpList_load_at hgd _ x ho b n off 20 f _ hx hg hm Try.underlying175 rfl sizeX h
theorem execAC {o : Oper} {ev : Operand → Value} {w : World} {b n off : Nat} {f : Nat → Int} {x : Operand} (hg : CAt w b n f) (hm : off + 2 ≤ n) (ho : o.op = .load 37 x) (hx : ev x = .pointer (some ⟨b, off, none⟩)) :
    (execOp ev o).run Try.prog w = .ok (.value (.agg (mk 2 (fun i => f (off + i))))) w := exec_load_at _ x ho hx hg hm Try.underlying37 rfl sizeC
theorem loadAC {ops : Array Oper} {rest : List Oper} {o : Oper} {a : Act} {w : World} {Q : Exit → Act → World → Prop} {x : Operand} {b n off : Nat} {f : Nat → Int} (hg : CAt w b n f) (hm : off + 2 ≤ n)
    (hgd : o.guard = none) (ho : o.op = .load 37 x) (hx : a.eval x = .pointer (some ⟨b, off, none⟩))
    (h : wpList Try.prog ops Q rest (a.put o.dst (.agg (mk 2 (fun i => f (off + i))))) w) : wpList Try.prog ops Q (o :: rest) a w :=
  wpList_load_at hgd _ x ho b n off 2 f _ hx hg hm Try.underlying37 rfl sizeC h
theorem infoT : (Try.prog.info? 52).map (fun i => (i.zero, i.size, i.bytes)) = some (some (.agg (mk 4 fun _ => 0)), 4, 32) := by kernel_rfl
theorem infoX : (Try.prog.info? 175).map (fun i => (i.zero, i.size, i.bytes)) = some (some (.agg (mk 20 fun _ => 0)), 20, 160) := by kernel_rfl
theorem wp_buildT {w : World} {o : Oper} {a : Act} {K : Act → World → Prop} {Q : Exit → Act → World → Prop} (x : Operand) (ho : o.op = .buildSlice 27 1 #[(0, x)]) {f : Nat → Int} (hx : a.eval x = .agg (mk 4 f))
    (h : K (a.put o.dst (.slice (some ⟨w.heap.size, 0, none⟩) 1 1)) (w.alloc (.cells (mk 4 f) 52))) : o.wp Try.prog a w K Q := by
  obtain ⟨i0, hi, hz0, hz1, hz2⟩ := info_parts infoT
  refine Go.wp_buildSlice 27 52 1 #[(0, x)] ho (mk 4 f) i0 _ Try.underlying27 hi hz0 (by rw [hz1]; decide) (by rw [hz1]; decide) ?_ h
  rw [hz1]
  have e : (Array.map (fun (p : Nat × Operand) => (p.1, a.eval p.2)) #[(0, x)]).toList = [(0, .agg (mk 4 f))] := by simp [hx]
  show Instr.fill _ _ (Array.map (fun (p : Nat × Operand) => (p.1, a.eval p.2)) #[(0, x)]).toList = _
  rw [e]
  exact fill_one f _ (by simp)
theorem wpl_buildT {w : World} {ops : Array Oper} {rest : List Oper} {o : Oper} {a : Act} {Q : Exit → Act → World → Prop} (x : Operand) (hg : o.guard = none) (ho : o.op = .buildSlice 27 1 #[(0, x)]) {f : Nat → Int} (hx : a.eval x = .agg (mk 4 f))
    (h : wpList Try.prog ops Q rest (a.put o.dst (.slice (some ⟨w.heap.size, 0, none⟩) 1 1)) (w.alloc (.cells (mk 4 f) 52))) : wpList Try.prog ops Q (o :: rest) a w :=
  wpList_plain hg fun _ hK => wp_buildT x ho hx (hK _ _ h)
theorem wp_buildX {w : World} {o : Oper} {a : Act} {K : Act → World → Prop} {Q : Exit → Act → World → Prop} (x : Operand) (ho : o.op = .buildSlice 172 1 #[(0, x)]) {f : Nat → Int} (hx : a.eval x = .agg (mk 20 f))
    (h : K (a.put o.dst (.slice (some ⟨w.heap.size, 0, none⟩) 1 1)) (w.alloc (.cells (mk 20 f) 175))) : o.wp Try.prog a w K Q := by
  obtain ⟨i0, hi, hz0, hz1, hz2⟩ := info_parts infoX
  refine Go.wp_buildSlice 172 175 1 #[(0, x)] ho (mk 20 f) i0 _ Try.underlying172 hi hz0 (by rw [hz1]; decide) (by rw [hz1]; decide) ?_ h
  rw [hz1]
  have e : (Array.map (fun (p : Nat × Operand) => (p.1, a.eval p.2)) #[(0, x)]).toList = [(0, .agg (mk 20 f))] := by simp [hx]
  show Instr.fill _ _ (Array.map (fun (p : Nat × Operand) => (p.1, a.eval p.2)) #[(0, x)]).toList = _
  rw [e]
  exact fill_one f _ (by simp)
theorem wpl_buildX {w : World} {ops : Array Oper} {rest : List Oper} {o : Oper} {a : Act} {Q : Exit → Act → World → Prop} (x : Operand) (hg : o.guard = none) (ho : o.op = .buildSlice 172 1 #[(0, x)]) {f : Nat → Int} (hx : a.eval x = .agg (mk 20 f))
    (h : wpList Try.prog ops Q rest (a.put o.dst (.slice (some ⟨w.heap.size, 0, none⟩) 1 1)) (w.alloc (.cells (mk 20 f) 175))) : wpList Try.prog ops Q (o :: rest) a w :=
  wpList_plain hg fun _ hK => wp_buildX x ho hx (hK _ _ h)
/-- A part of a block is read under a guard that is met. -/
theorem wpList_load_partg {P : Program} {ops : Array Oper} {rest : List Oper} {o : Oper} {a : Act} {w : World} {Q : Exit → Act → World → Prop} (hw : Region.wanted o (yielded ops a.tmps) = true) (ty : TypeId) (x : Operand) (ho : o.op = .load ty x) (b n off m : Nat) (f : Nat → Int) (t : TypeId) (d : TypeDesc)
    (hx : a.eval x = .pointer (some ⟨b, off, none⟩)) (hg : Blk w b n f t) (hm : off + m ≤ n)
    (hu : P.underlying ty = some d) (hd : d.isRow = true) (hi : (P.info? ty).map (·.size) = some m)
    (h : wpList P ops Q rest (a.put o.dst (.agg (mk m (fun i => f (off + i))))) w) : wpList P ops Q (o :: rest) a w :=
  wpList_step fun _ hK => by
    rw [if_pos hw]
    exact wp_load_mid ty x ho b off hx _ d (hg.range off m hm) hu hd (by rw [mk_len]; exact hi) (by rw [Array.toArray_toList]; exact hK _ _ h)
theorem loadPgC {ops : Array Oper} {rest : List Oper} {o : Oper} {a : Act} {w : World} {Q : Exit → Act → World → Prop} {x : Operand} {b n off : Nat} {f : Nat → Int} {t : TypeId}
    (hg : Blk w b n f t) (hm : off + 2 ≤ n) (hw : Region.wanted o (yielded ops a.tmps) = true) (ho : o.op = .load 37 x) (hx : a.eval x = .pointer (some ⟨b, off, none⟩))
    (h : wpList Try.prog ops Q rest (a.put o.dst (.agg (mk 2 (fun i => f (off + i))))) w) : wpList Try.prog ops Q (o :: rest) a w :=
  wpList_load_partg hw _ x ho b n off 2 f t _ hx hg hm Try.underlying37 rfl sizeC h
/-- A step of its parts. -/
def stepF (d : Int) (g : Nat → Int) (t : Int) : Nat → Int := fun j => if j = 0 then d else if j = 1 then g 0 else if j = 2 then g 1 else t
theorem run_buildT (d t : Int) (g : Nat → Int) (w : World) : (Instr.build 52 #[(0, .int .i64 d), (1, .agg (mk 2 g)), (2, .int .i64 t)]).run Try.prog w = .ok (.agg (mk 4 (stepF d g t))) w := by kernel_rfl
/-- A board behind a step. -/
def nextF (s f : Nat → Int) : Nat → Int := fun j => if j < 4 then s j else f (j - 4)
theorem run_buildX (s f : Nat → Int) (w : World) : (Instr.build 175 #[(0, .agg (mk 4 s)), (1, .agg (mk 16 f))]).run Try.prog w = .ok (.agg (mk 20 (nextF s f))) w := by kernel_rfl
theorem wpl_stepT {w : World} {ops : Array Oper} {rest : List Oper} {o : Oper} {a : Act} {Q : Exit → Act → World → Prop} (x y z : Operand) (hg : o.guard = none) (ho : o.op = .build 52 #[(0, x), (1, y), (2, z)]) {d t : Int} {g : Nat → Int}
    (hx : a.eval x = .int .i64 d) (hy : a.eval y = .agg (mk 2 g)) (hz : a.eval z = .int .i64 t) (h : wpList Try.prog ops Q rest (a.put o.dst (.agg (mk 4 (stepF d g t)))) w) : wpList Try.prog ops Q (o :: rest) a w := by
  refine wpList_plain hg fun K' hK' => ?_
  unfold Oper.wp
  have hr := run_buildT d t g w
  simp [execOp, ho, hx, hy, hz, hr, Result.andThen]
  exact hK' _ _ h
theorem wpl_nextX {w : World} {ops : Array Oper} {rest : List Oper} {o : Oper} {a : Act} {Q : Exit → Act → World → Prop} (x y : Operand) (hg : o.guard = none) (ho : o.op = .build 175 #[(0, x), (1, y)]) {s f : Nat → Int}
    (hx : a.eval x = .agg (mk 4 s)) (hy : a.eval y = .agg (mk 16 f)) (h : wpList Try.prog ops Q rest (a.put o.dst (.agg (mk 20 (nextF s f)))) w) : wpList Try.prog ops Q (o :: rest) a w := by
  refine wpList_plain hg fun K' hK' => ?_
  unfold Oper.wp
  have hr := run_buildX s f w
  simp [execOp, ho, hx, hy, hr, Result.andThen]
  exact hK' _ _ h
/-- Two steps, one behind the other. -/
def twoF (s u : Nat → Int) : Nat → Int := fun j => if j < 4 then s j else u (j - 4)
theorem fill_two_at (s u : Nat → Int) (a b c d e f g h : Value) : Instr.fill (fun i => some (i * 4, 4)) #[a, b, c, d, e, f, g, h] [(0, .agg (mk 4 s)), (1, .agg (mk 4 u))] = some (mk 8 (twoF s u)) := by kernel_rfl
theorem fill_two (s u : Nat → Int) (cs : Array Value) (hc : cs.size = 8) : Instr.fill (fun i => some (i * 4, 4)) cs [(0, .agg (mk 4 s)), (1, .agg (mk 4 u))] = some (mk 8 (twoF s u)) := by
  obtain ⟨l⟩ := cs
  have hl : l.length = 8 := by simpa using hc
  match l, hl with
  | [a, b, c, d, e, f, g, h], _ => exact fill_two_at s u a b c d e f g h
theorem wp_stepT {w : World} {o : Oper} {a : Act} {K : Act → World → Prop} {Q : Exit → Act → World → Prop} (x y z : Operand) (ho : o.op = .build 52 #[(0, x), (1, y), (2, z)]) {d t : Int} {g : Nat → Int}
    (hx : a.eval x = .int .i64 d) (hy : a.eval y = .agg (mk 2 g)) (hz : a.eval z = .int .i64 t) (h : K (a.put o.dst (.agg (mk 4 (stepF d g t)))) w) : o.wp Try.prog a w K Q := by
  unfold Oper.wp
  have hr := run_buildT d t g w
  simp [execOp, ho, hx, hy, hz, hr, Result.andThen]
  exact h
theorem exec_stepT {o : Oper} {ev : Operand → Value} {w : World} (x y z : Operand) (ho : o.op = .build 52 #[(0, x), (1, y), (2, z)]) {d t : Int} {g : Nat → Int}
    (hx : ev x = .int .i64 d) (hy : ev y = .agg (mk 2 g)) (hz : ev z = .int .i64 t) : (execOp ev o).run Try.prog w = .ok (.value (.agg (mk 4 (stepF d g t)))) w := by
  have hr := run_buildT d t g w
  simp [execOp, ho, hx, hy, hz, hr, Result.andThen]
theorem wp_buildT2 {w : World} {o : Oper} {a : Act} {K : Act → World → Prop} {Q : Exit → Act → World → Prop} (x y : Operand) (ho : o.op = .buildSlice 27 2 #[(0, x), (1, y)]) {s u : Nat → Int} (hx : a.eval x = .agg (mk 4 s)) (hy : a.eval y = .agg (mk 4 u))
    (h : K (a.put o.dst (.slice (some ⟨w.heap.size, 0, none⟩) 2 2)) (w.alloc (.cells (mk 8 (twoF s u)) 52))) : o.wp Try.prog a w K Q := by
  obtain ⟨i0, hi, hz0, hz1, hz2⟩ := info_parts infoT
  refine Go.wp_buildSlice 27 52 2 #[(0, x), (1, y)] ho (mk 8 (twoF s u)) i0 _ Try.underlying27 hi hz0 (by rw [hz1]; decide) (by rw [hz1]; decide) ?_ h
  rw [hz1]
  have e : (Array.map (fun (p : Nat × Operand) => (p.1, a.eval p.2)) #[(0, x), (1, y)]).toList = [(0, .agg (mk 4 s)), (1, .agg (mk 4 u))] := by simp [hx, hy]
  show Instr.fill _ _ (Array.map (fun (p : Nat × Operand) => (p.1, a.eval p.2)) #[(0, x), (1, y)]).toList = _
  rw [e]
  exact fill_two s u _ (by simp)
theorem wp_allocX {w : World} {o : Oper} {a : Act} {K : Act → World → Prop} {Q : Exit → Act → World → Prop} (ho : o.op = .alloc 26)
    (h : K (a.put o.dst (.pointer (some ⟨w.heap.size, 0, none⟩))) (w.alloc (.cells (mk 16 fun _ => 0) 26))) : o.wp Try.prog a w K Q := by
  have z16 := zero16
  unfold Oper.wp
  go_simp
  exact h
theorem grown_row {w : World} {b n : Nat} {f : Nat → Int} {t : TypeId} (k : Blk w b n f t) (cs : Array Value) : w.grownBy (w.setRow b cs) (some b) := by
  refine ⟨rfl, rfl, rfl, ?_, fun j hj hne => ?_⟩
  · simp [World.setRow]
  · exact setRow_other w b j cs (fun e => hne (by rw [e]))
theorem own_past {t : TypeId} {m b : Nat} {w w' : World} {v : Value} {L : List (List Int)} (h : OwnsL t m w b v L) (hb : Below w.heap.size w w') : OwnsL t m w' b v L := h.below hb
theorem own_slice {w : World} {b size n gg len cap x : Nat} {e : TypeId} {v : Value} {xs : List Value} (h : w.ownsRow b e size v n xs) (hl : v.ownBlock = (Value.slice (some ⟨gg, 0, none⟩) len cap).ownBlock ∨ v.ownBlock = some x) :
    ∃ g c, v = .slice (some ⟨g, 0, none⟩) n c := by
  rcases h.2 with ⟨rfl, _⟩ | ⟨g, c, cur, rfl, _⟩
  · rcases hl with h | h <;> simp [Value.ownBlock] at h
  · exact ⟨g, c, rfl⟩
/-- A row of lists is read at its place. -/
theorem next_at {L : List (List Int)} (ha : AllL 4 L) {k : Nat} {l : List Int} (h : L[k]? = some l) (f : Nat → Int) : doB f (fun j => flatF L (k * 4 + j)) = doB f (fn l) := (do_congr fun i hi => flatF_at ha h hi).1
theorem cl_at {m : Nat} {L : List (List Int)} (ha : AllL m L) {k : Nat} {l : List Int} (h : L[k]? = some l) : cl m (fun j => flatF L (k * m + j)) = l := by
  rw [← cl_fn (ha l (List.mem_of_getElem? h))]
  exact cl_inj.2 fun i hi => flatF_at ha h hi
end Go.Proofs.Ytfjpdopljmilpaa
