/-
  The laws of whole aggregates of integers, at the types of this program: read, written, indexed, handed back. Nothing is proved here of the program's functions.
-/
import Derived.Test.YtpiegllffkjneaaBd
import Derived.Outline
import Derived.Deep.LoopGhost
import Derived.Deep.WholeRow
import Derived.Deep.QuietTactic
import Derived.BigQuiet
import Derived.WalkMore
import Derived.IntWalk
namespace Go.Proofs.Ytpiegllffkjneaa
open Go.RowKit Plain

theorem zero18 : (#[.int .i64 0, .int .i64 0, .int .i64 0, .int .i64 0, .int .i64 0, .int .i64 0, .int .i64 0, .int .i64 0, .int .i64 0, .int .i64 0, .int .i64 0, .int .i64 0, .int .i64 0, .int .i64 0, .int .i64 0, .int .i64 0, .int .i64 0, .int .i64 0] : Array Value) = mk 18 (fun _ => 0) := rfl
theorem zero16 : (#[.int .i64 0, .int .i64 0, .int .i64 0, .int .i64 0, .int .i64 0, .int .i64 0, .int .i64 0, .int .i64 0, .int .i64 0, .int .i64 0, .int .i64 0, .int .i64 0, .int .i64 0, .int .i64 0, .int .i64 0, .int .i64 0] : Array Value) = mk 16 (fun _ => 0) := rfl
theorem zero8 : (#[.int .i64 0, .int .i64 0, .int .i64 0, .int .i64 0, .int .i64 0, .int .i64 0, .int .i64 0, .int .i64 0] : Array Value) = mk 8 (fun _ => 0) := rfl
theorem zero4 : (#[.int .i64 0, .int .i64 0, .int .i64 0, .int .i64 0] : Array Value) = mk 4 (fun _ => 0) := rfl
theorem zero2 : (#[.int .i64 0, .int .i64 0] : Array Value) = mk 2 (fun _ => 0) := rfl
/-- Two numbers. -/
def two (a b : Int) : Nat → Int := fun i => if i = 0 then a else b
theorem mk_two (a b : Int) : (#[.int .i64 a, .int .i64 b] : Array Value) = mk 2 (two a b) := rfl

section
variable {P : Program}
theorem run_load_blk {w : World} {b n : Nat} {f : Nat → Int} {t ty : TypeId} {d : TypeDesc} (hg : Blk w b n f t) (hu : P.underlying ty = some d) (hd : d.isRow = true) (hi : (P.info? ty).map (·.size) = some n) :
    (loadVar ty ⟨b, 0, none⟩).run P w = .ok (.agg (mk n f)) w :=
  run_loadVar_row w b t ty _ _ d hg hu (by cases d <;> first | rfl | exact hd) (by rw [mk_size]; exact hi)
theorem ret_c {fn : Func} {R : Ending → World → Prop} {a : Act} {w : World} {p : Tmp} {ty t : TypeId} {b n : Nat} {f : Nat → Int} {d : TypeDesc}
    (hu : P.underlying ty = some d) (hd : d.isRow = true) (hi : (P.info? ty).map (·.size) = some n)
    (h : fn.results = #[.cell p ty]) (hp : a.tmps.getD p undef = .pointer (some ⟨b, 0, none⟩)) (hdf : a.defers = []) (hg : Blk w b n f t)
    (hR : R (.returned (.agg (mk n f))) w) : bodyPost P fn R .ret a w := by
  have hp' : a.tmps[p]?.getD undef = .pointer (some ⟨b, 0, none⟩) := by simpa using hp
  exact bodyPost_ret (v := .agg (mk n f)) (by simp [results, h, hp', asAddr, run_load_blk hg hu hd hi]) hdf hR
theorem ret_ct {fn : Func} {R : Ending → World → Prop} {a : Act} {w : World} {p q : Tmp} {ty t : TypeId} {b n : Nat} {f : Nat → Int} {d : TypeDesc}
    (hu : P.underlying ty = some d) (hd : d.isRow = true) (hi : (P.info? ty).map (·.size) = some n)
    (h : fn.results = #[.cell p ty, .tmp q]) (hp : a.tmps.getD p undef = .pointer (some ⟨b, 0, none⟩)) (hdf : a.defers = []) (hg : Blk w b n f t)
    (hR : R (.returned (.tuple #[.agg (mk n f), a.tmps.getD q undef])) w) : bodyPost P fn R .ret a w := by
  have hp' : a.tmps[p]?.getD undef = .pointer (some ⟨b, 0, none⟩) := by simpa using hp
  exact bodyPost_ret (v := .tuple #[.agg (mk n f), a.tmps.getD q undef]) (by simp [results, h, hp', asAddr, run_load_blk hg hu hd hi]) hdf hR
theorem ret_ctt {fn : Func} {R : Ending → World → Prop} {a : Act} {w : World} {p q r : Tmp} {ty t : TypeId} {b n : Nat} {f : Nat → Int} {d : TypeDesc}
    (hu : P.underlying ty = some d) (hd : d.isRow = true) (hi : (P.info? ty).map (·.size) = some n)
    (h : fn.results = #[.cell p ty, .tmp q, .tmp r]) (hp : a.tmps.getD p undef = .pointer (some ⟨b, 0, none⟩)) (hdf : a.defers = []) (hg : Blk w b n f t)
    (hR : R (.returned (.tuple #[.agg (mk n f), a.tmps.getD q undef, a.tmps.getD r undef])) w) : bodyPost P fn R .ret a w := by
  have hp' : a.tmps[p]?.getD undef = .pointer (some ⟨b, 0, none⟩) := by simpa using hp
  exact bodyPost_ret (v := .tuple #[.agg (mk n f), a.tmps.getD q undef, a.tmps.getD r undef]) (by simp [results, h, hp', asAddr, run_load_blk hg hu hd hi]) hdf hR
theorem ret_tct {fn : Func} {R : Ending → World → Prop} {a : Act} {w : World} {p q r : Tmp} {ty t : TypeId} {b n : Nat} {f : Nat → Int} {d : TypeDesc}
    (hu : P.underlying ty = some d) (hd : d.isRow = true) (hi : (P.info? ty).map (·.size) = some n)
    (h : fn.results = #[.tmp q, .cell p ty, .tmp r]) (hp : a.tmps.getD p undef = .pointer (some ⟨b, 0, none⟩)) (hdf : a.defers = []) (hg : Blk w b n f t)
    (hR : R (.returned (.tuple #[a.tmps.getD q undef, .agg (mk n f), a.tmps.getD r undef])) w) : bodyPost P fn R .ret a w := by
  have hp' : a.tmps[p]?.getD undef = .pointer (some ⟨b, 0, none⟩) := by simpa using hp
  exact bodyPost_ret (v := .tuple #[a.tmps.getD q undef, .agg (mk n f), a.tmps.getD r undef]) (by simp [results, h, hp', asAddr, run_load_blk hg hu hd hi]) hdf hR
theorem ret_cc {fn : Func} {R : Ending → World → Prop} {a : Act} {w : World} {p q : Tmp} {ty t ty2 t2 : TypeId} {b n b2 n2 : Nat} {f f2 : Nat → Int} {d d2 : TypeDesc}
    (hu : P.underlying ty = some d) (hd : d.isRow = true) (hi : (P.info? ty).map (·.size) = some n) (hu2 : P.underlying ty2 = some d2) (hd2 : d2.isRow = true) (hi2 : (P.info? ty2).map (·.size) = some n2)
    (h : fn.results = #[.cell p ty, .cell q ty2]) (hp : a.tmps.getD p undef = .pointer (some ⟨b, 0, none⟩)) (hq : a.tmps.getD q undef = .pointer (some ⟨b2, 0, none⟩)) (hdf : a.defers = [])
    (hg : Blk w b n f t) (hg2 : Blk w b2 n2 f2 t2)
    (hR : R (.returned (.tuple #[.agg (mk n f), .agg (mk n2 f2)])) w) : bodyPost P fn R .ret a w := by
  have hp' : a.tmps[p]?.getD undef = .pointer (some ⟨b, 0, none⟩) := by simpa using hp
  have hq' : a.tmps[q]?.getD undef = .pointer (some ⟨b2, 0, none⟩) := by simpa using hq
  exact bodyPost_ret (v := .tuple #[.agg (mk n f), .agg (mk n2 f2)]) (by simp [results, h, hp', hq', asAddr, run_load_blk hg hu hd hi, run_load_blk hg2 hu2 hd2 hi2]) hdf hR
theorem ret_cct {fn : Func} {R : Ending → World → Prop} {a : Act} {w : World} {p q r : Tmp} {ty t ty2 t2 : TypeId} {b n b2 n2 : Nat} {f f2 : Nat → Int} {d d2 : TypeDesc}
    (hu : P.underlying ty = some d) (hd : d.isRow = true) (hi : (P.info? ty).map (·.size) = some n) (hu2 : P.underlying ty2 = some d2) (hd2 : d2.isRow = true) (hi2 : (P.info? ty2).map (·.size) = some n2)
    (h : fn.results = #[.cell p ty, .cell q ty2, .tmp r]) (hp : a.tmps.getD p undef = .pointer (some ⟨b, 0, none⟩)) (hq : a.tmps.getD q undef = .pointer (some ⟨b2, 0, none⟩)) (hdf : a.defers = [])
    (hg : Blk w b n f t) (hg2 : Blk w b2 n2 f2 t2)
    (hR : R (.returned (.tuple #[.agg (mk n f), .agg (mk n2 f2), a.tmps.getD r undef])) w) : bodyPost P fn R .ret a w := by
  have hp' : a.tmps[p]?.getD undef = .pointer (some ⟨b, 0, none⟩) := by simpa using hp
  have hq' : a.tmps[q]?.getD undef = .pointer (some ⟨b2, 0, none⟩) := by simpa using hq
  exact bodyPost_ret (v := .tuple #[.agg (mk n f), .agg (mk n2 f2), a.tmps.getD r undef]) (by simp [results, h, hp', hq', asAddr, run_load_blk hg hu hd hi, run_load_blk hg2 hu2 hd2 hi2]) hdf hR

/-- A row out of an array of rows. -/
theorem run_index_row {t e : TypeId} {L m n k : Nat} {d : TypeDesc} (hu : P.underlying t = some (.array L e)) (he : P.underlying e = some d) (hd : d.isRow = true)
    (hi : (P.info? e).map (·.size) = some m) (f : Nat → Int) (hk : k < L) (hn : k * m + m ≤ n) (w : World) :
    (Instr.index t (.agg (mk n f)) (.int .i64 (k : Int))).run P w = .ok (.agg (mk m (fun c => f (k * m + c)))) w := by
  have hagg : (isAgg e).run P w = .ok true w := by
    unfold isAgg
    rw [Sem.run_bind, run_underlying he w]
    cases d <;> simp_all
  cases hq : P.info? e with
  | none => simp [hq] at hi
  | some i =>
    have hs : i.size = m := by simpa [hq] using hi
    simp [Instr.index, asIntOf, run_underlying hu, part, hagg, sizeOf, typeInfo, hq, hs, mk_extract f (k * m) m hn]
    intro h; omega
/-- A number out of an array of numbers. -/
theorem run_index_int {t e : TypeId} {L k : Nat} (hu : P.underlying t = some (.array L e)) (he : P.underlying e = some (.int .i64))
    (hi : (P.info? e).map (·.size) = some 1) (f : Nat → Int) (hk : k < L) (w : World) :
    (Instr.index t (.agg (mk L f)) (.int .i64 (k : Int))).run P w = .ok (.int .i64 (f k)) w := by
  have hagg : (isAgg e).run P w = .ok false w := by
    unfold isAgg
    rw [Sem.run_bind, run_underlying he w]
    simp
  cases hq : P.info? e with
  | none => simp [hq] at hi
  | some i =>
    have hs : i.size = 1 := by simpa [hq] using hi
    simp [Instr.index, asIntOf, run_underlying hu, part, hagg, sizeOf, typeInfo, hq, hs, mk_get f hk]
    intro h; omega
/-- A whole aggregate into a block of its size. -/
theorem run_store_blk {w : World} {b n : Nat} {f : Nat → Int} (g : Nat → Int) {t : TypeId} (hg : Blk w b n f t) :
    (storeCells ⟨b, 0, none⟩ (mk n g).toList).run P w = .ok () (w.setRow b (mk n g)) := by
  have := run_storeCells_from (P := P) b t (mk n g).toList 0 _ _ hg (by simp [mk]) (fun v hv => (Array.all_eq_true_iff_forall_mem.1 (mk_one g)) v (by simpa using hv))
  rw [this]
  simp
/-- A whole aggregate into the block that was made last. -/
theorem store_new (W : World) (b n : Nat) (f g : Nat → Int) (t : TypeId) (hb : b = W.heap.size) :
    (storeCells ⟨b, 0, none⟩ (mk n g).toList).run P (W.alloc (.cells (mk n f) t)) = .ok () (W.alloc (.cells (mk n g) t)) := by
  subst hb
  have := run_storeCells_from (P := P) W.heap.size t (mk n g).toList 0 _ _ (Blk.new W n f t) (by simp [mk]) (fun v hv => (Array.all_eq_true_iff_forall_mem.1 (mk_one g)) v (by simpa using hv))
  rw [this]
  simp [World.setRow_alloc_new]
end

theorem sizeB : (Try.prog.info? 27).map (·.size) = some 16 := by kernel_rfl
theorem loadB {ops : Array Oper} {rest : List Oper} {o : Oper} {a : Act} {w : World} {Q : Exit → Act → World → Prop} {x : Operand} {b : Nat} {f : Nat → Int} {t : TypeId}
    (hg : Blk w b 16 f t) (hgd : o.guard = none) (ho : o.op = .load 27 x) (hx : a.eval x = .pointer (some ⟨b, 0, none⟩))
    (h : wpList Try.prog ops Q rest (a.put o.dst (.agg (mk 16 f))) w) : wpList Try.prog ops Q (o :: rest) a w :=
  wpList_load_blk hgd _ x ho b 16 f t _ hx hg Try.underlying27 rfl sizeB h
theorem storeB {ops : Array Oper} {rest : List Oper} {o : Oper} {a : Act} {w : World} {Q : Exit → Act → World → Prop} {x y : Operand} {b : Nat} {f g : Nat → Int} {t : TypeId}
    (hg : Blk w b 16 f t) (hgd : o.guard = none) (ho : o.op = .store 27 x y) (hx : a.eval x = .pointer (some ⟨b, 0, none⟩)) (hy : a.eval y = .agg (mk 16 g))
    (h : wpList Try.prog ops Q rest (a.put o.dst undef) (w.setRow b (mk 16 g))) : wpList Try.prog ops Q (o :: rest) a w :=
  wpList_store_blk hgd _ x y ho b 16 f g t hx hy hg sizeB h
theorem loadPB {ops : Array Oper} {rest : List Oper} {o : Oper} {a : Act} {w : World} {Q : Exit → Act → World → Prop} {x : Operand} {b n off : Nat} {f : Nat → Int} {t : TypeId}
    (hg : Blk w b n f t) (hm : off + 16 ≤ n) (hgd : o.guard = none) (ho : o.op = .load 27 x) (hx : a.eval x = .pointer (some ⟨b, off, none⟩))
    (h : wpList Try.prog ops Q rest (a.put o.dst (.agg (mk 16 (fun i => f (off + i))))) w) : wpList Try.prog ops Q (o :: rest) a w :=
  wpList_load_part hgd _ x ho b n off 16 f t _ hx hg hm Try.underlying27 rfl sizeB h
theorem storePB {ops : Array Oper} {rest : List Oper} {o : Oper} {a : Act} {w : World} {Q : Exit → Act → World → Prop} {x y : Operand} {b n off : Nat} {f g : Nat → Int} {t : TypeId}
    (hg : Blk w b n f t) (hm : off + 16 ≤ n) (hgd : o.guard = none) (ho : o.op = .store 27 x y) (hx : a.eval x = .pointer (some ⟨b, off, none⟩)) (hy : a.eval y = .agg (mk 16 g))
    (h : wpList Try.prog ops Q rest (a.put o.dst undef) (w.setRow b (mk n (patch f off 16 g)))) : wpList Try.prog ops Q (o :: rest) a w :=
  wpList_store_part hgd _ x y ho b n off 16 f g t hx hy hg hm sizeB h
theorem retcB {fn : Func} {R : Ending → World → Prop} {a : Act} {w : World} {p : Tmp} {t : TypeId} {b : Nat} {f : Nat → Int}
    (hg : Blk w b 16 f t) (h : fn.results = #[.cell p 27]) (hp : a.tmps.getD p undef = .pointer (some ⟨b, 0, none⟩)) (hdf : a.defers = [])
    (hR : R (.returned (.agg (mk 16 f))) w) : bodyPost Try.prog fn R .ret a w := ret_c Try.underlying27 rfl sizeB h hp hdf hg hR
theorem retctB {fn : Func} {R : Ending → World → Prop} {a : Act} {w : World} {p q : Tmp} {t : TypeId} {b : Nat} {f : Nat → Int}
    (hg : Blk w b 16 f t) (h : fn.results = #[.cell p 27, .tmp q]) (hp : a.tmps.getD p undef = .pointer (some ⟨b, 0, none⟩)) (hdf : a.defers = [])
    (hR : R (.returned (.tuple #[.agg (mk 16 f), a.tmps.getD q undef])) w) : bodyPost Try.prog fn R .ret a w := ret_ct Try.underlying27 rfl sizeB h hp hdf hg hR
theorem retcttB {fn : Func} {R : Ending → World → Prop} {a : Act} {w : World} {p q r : Tmp} {t : TypeId} {b : Nat} {f : Nat → Int}
    (hg : Blk w b 16 f t) (h : fn.results = #[.cell p 27, .tmp q, .tmp r]) (hp : a.tmps.getD p undef = .pointer (some ⟨b, 0, none⟩)) (hdf : a.defers = [])
    (hR : R (.returned (.tuple #[.agg (mk 16 f), a.tmps.getD q undef, a.tmps.getD r undef])) w) : bodyPost Try.prog fn R .ret a w := ret_ctt Try.underlying27 rfl sizeB h hp hdf hg hR
theorem sizeG : (Try.prog.info? 25).map (·.size) = some 16 := by kernel_rfl
theorem loadG {ops : Array Oper} {rest : List Oper} {o : Oper} {a : Act} {w : World} {Q : Exit → Act → World → Prop} {x : Operand} {b : Nat} {f : Nat → Int} {t : TypeId}
    (hg : Blk w b 16 f t) (hgd : o.guard = none) (ho : o.op = .load 25 x) (hx : a.eval x = .pointer (some ⟨b, 0, none⟩))
    (h : wpList Try.prog ops Q rest (a.put o.dst (.agg (mk 16 f))) w) : wpList Try.prog ops Q (o :: rest) a w :=
  wpList_load_blk hgd _ x ho b 16 f t _ hx hg Try.underlying25 rfl sizeG h
theorem storeG {ops : Array Oper} {rest : List Oper} {o : Oper} {a : Act} {w : World} {Q : Exit → Act → World → Prop} {x y : Operand} {b : Nat} {f g : Nat → Int} {t : TypeId}
    (hg : Blk w b 16 f t) (hgd : o.guard = none) (ho : o.op = .store 25 x y) (hx : a.eval x = .pointer (some ⟨b, 0, none⟩)) (hy : a.eval y = .agg (mk 16 g))
    (h : wpList Try.prog ops Q rest (a.put o.dst undef) (w.setRow b (mk 16 g))) : wpList Try.prog ops Q (o :: rest) a w :=
  wpList_store_blk hgd _ x y ho b 16 f g t hx hy hg sizeG h
theorem loadPG {ops : Array Oper} {rest : List Oper} {o : Oper} {a : Act} {w : World} {Q : Exit → Act → World → Prop} {x : Operand} {b n off : Nat} {f : Nat → Int} {t : TypeId}
    (hg : Blk w b n f t) (hm : off + 16 ≤ n) (hgd : o.guard = none) (ho : o.op = .load 25 x) (hx : a.eval x = .pointer (some ⟨b, off, none⟩))
    (h : wpList Try.prog ops Q rest (a.put o.dst (.agg (mk 16 (fun i => f (off + i))))) w) : wpList Try.prog ops Q (o :: rest) a w :=
  wpList_load_part hgd _ x ho b n off 16 f t _ hx hg hm Try.underlying25 rfl sizeG h
theorem storePG {ops : Array Oper} {rest : List Oper} {o : Oper} {a : Act} {w : World} {Q : Exit → Act → World → Prop} {x y : Operand} {b n off : Nat} {f g : Nat → Int} {t : TypeId}
    (hg : Blk w b n f t) (hm : off + 16 ≤ n) (hgd : o.guard = none) (ho : o.op = .store 25 x y) (hx : a.eval x = .pointer (some ⟨b, off, none⟩)) (hy : a.eval y = .agg (mk 16 g))
    (h : wpList Try.prog ops Q rest (a.put o.dst undef) (w.setRow b (mk n (patch f off 16 g)))) : wpList Try.prog ops Q (o :: rest) a w :=
  wpList_store_part hgd _ x y ho b n off 16 f g t hx hy hg hm sizeG h
theorem retcG {fn : Func} {R : Ending → World → Prop} {a : Act} {w : World} {p : Tmp} {t : TypeId} {b : Nat} {f : Nat → Int}
    (hg : Blk w b 16 f t) (h : fn.results = #[.cell p 25]) (hp : a.tmps.getD p undef = .pointer (some ⟨b, 0, none⟩)) (hdf : a.defers = [])
    (hR : R (.returned (.agg (mk 16 f))) w) : bodyPost Try.prog fn R .ret a w := ret_c Try.underlying25 rfl sizeG h hp hdf hg hR
theorem retctG {fn : Func} {R : Ending → World → Prop} {a : Act} {w : World} {p q : Tmp} {t : TypeId} {b : Nat} {f : Nat → Int}
    (hg : Blk w b 16 f t) (h : fn.results = #[.cell p 25, .tmp q]) (hp : a.tmps.getD p undef = .pointer (some ⟨b, 0, none⟩)) (hdf : a.defers = [])
    (hR : R (.returned (.tuple #[.agg (mk 16 f), a.tmps.getD q undef])) w) : bodyPost Try.prog fn R .ret a w := ret_ct Try.underlying25 rfl sizeG h hp hdf hg hR
theorem retcttG {fn : Func} {R : Ending → World → Prop} {a : Act} {w : World} {p q r : Tmp} {t : TypeId} {b : Nat} {f : Nat → Int}
    (hg : Blk w b 16 f t) (h : fn.results = #[.cell p 25, .tmp q, .tmp r]) (hp : a.tmps.getD p undef = .pointer (some ⟨b, 0, none⟩)) (hdf : a.defers = [])
    (hR : R (.returned (.tuple #[.agg (mk 16 f), a.tmps.getD q undef, a.tmps.getD r undef])) w) : bodyPost Try.prog fn R .ret a w := ret_ctt Try.underlying25 rfl sizeG h hp hdf hg hR
theorem sizeR : (Try.prog.info? 24).map (·.size) = some 4 := by kernel_rfl
theorem loadR {ops : Array Oper} {rest : List Oper} {o : Oper} {a : Act} {w : World} {Q : Exit → Act → World → Prop} {x : Operand} {b : Nat} {f : Nat → Int} {t : TypeId}
    (hg : Blk w b 4 f t) (hgd : o.guard = none) (ho : o.op = .load 24 x) (hx : a.eval x = .pointer (some ⟨b, 0, none⟩))
    (h : wpList Try.prog ops Q rest (a.put o.dst (.agg (mk 4 f))) w) : wpList Try.prog ops Q (o :: rest) a w :=
  wpList_load_blk hgd _ x ho b 4 f t _ hx hg Try.underlying24 rfl sizeR h
theorem storeR {ops : Array Oper} {rest : List Oper} {o : Oper} {a : Act} {w : World} {Q : Exit → Act → World → Prop} {x y : Operand} {b : Nat} {f g : Nat → Int} {t : TypeId}
    (hg : Blk w b 4 f t) (hgd : o.guard = none) (ho : o.op = .store 24 x y) (hx : a.eval x = .pointer (some ⟨b, 0, none⟩)) (hy : a.eval y = .agg (mk 4 g))
    (h : wpList Try.prog ops Q rest (a.put o.dst undef) (w.setRow b (mk 4 g))) : wpList Try.prog ops Q (o :: rest) a w :=
  wpList_store_blk hgd _ x y ho b 4 f g t hx hy hg sizeR h
theorem loadPR {ops : Array Oper} {rest : List Oper} {o : Oper} {a : Act} {w : World} {Q : Exit → Act → World → Prop} {x : Operand} {b n off : Nat} {f : Nat → Int} {t : TypeId}
    (hg : Blk w b n f t) (hm : off + 4 ≤ n) (hgd : o.guard = none) (ho : o.op = .load 24 x) (hx : a.eval x = .pointer (some ⟨b, off, none⟩))
    (h : wpList Try.prog ops Q rest (a.put o.dst (.agg (mk 4 (fun i => f (off + i))))) w) : wpList Try.prog ops Q (o :: rest) a w :=
  wpList_load_part hgd _ x ho b n off 4 f t _ hx hg hm Try.underlying24 rfl sizeR h
theorem storePR {ops : Array Oper} {rest : List Oper} {o : Oper} {a : Act} {w : World} {Q : Exit → Act → World → Prop} {x y : Operand} {b n off : Nat} {f g : Nat → Int} {t : TypeId}
    (hg : Blk w b n f t) (hm : off + 4 ≤ n) (hgd : o.guard = none) (ho : o.op = .store 24 x y) (hx : a.eval x = .pointer (some ⟨b, off, none⟩)) (hy : a.eval y = .agg (mk 4 g))
    (h : wpList Try.prog ops Q rest (a.put o.dst undef) (w.setRow b (mk n (patch f off 4 g)))) : wpList Try.prog ops Q (o :: rest) a w :=
  wpList_store_part hgd _ x y ho b n off 4 f g t hx hy hg hm sizeR h
theorem retcR {fn : Func} {R : Ending → World → Prop} {a : Act} {w : World} {p : Tmp} {t : TypeId} {b : Nat} {f : Nat → Int}
    (hg : Blk w b 4 f t) (h : fn.results = #[.cell p 24]) (hp : a.tmps.getD p undef = .pointer (some ⟨b, 0, none⟩)) (hdf : a.defers = [])
    (hR : R (.returned (.agg (mk 4 f))) w) : bodyPost Try.prog fn R .ret a w := ret_c Try.underlying24 rfl sizeR h hp hdf hg hR
theorem retctR {fn : Func} {R : Ending → World → Prop} {a : Act} {w : World} {p q : Tmp} {t : TypeId} {b : Nat} {f : Nat → Int}
    (hg : Blk w b 4 f t) (h : fn.results = #[.cell p 24, .tmp q]) (hp : a.tmps.getD p undef = .pointer (some ⟨b, 0, none⟩)) (hdf : a.defers = [])
    (hR : R (.returned (.tuple #[.agg (mk 4 f), a.tmps.getD q undef])) w) : bodyPost Try.prog fn R .ret a w := ret_ct Try.underlying24 rfl sizeR h hp hdf hg hR
theorem retcttR {fn : Func} {R : Ending → World → Prop} {a : Act} {w : World} {p q r : Tmp} {t : TypeId} {b : Nat} {f : Nat → Int}
    (hg : Blk w b 4 f t) (h : fn.results = #[.cell p 24, .tmp q, .tmp r]) (hp : a.tmps.getD p undef = .pointer (some ⟨b, 0, none⟩)) (hdf : a.defers = [])
    (hR : R (.returned (.tuple #[.agg (mk 4 f), a.tmps.getD q undef, a.tmps.getD r undef])) w) : bodyPost Try.prog fn R .ret a w := ret_ctt Try.underlying24 rfl sizeR h hp hdf hg hR
theorem sizeC : (Try.prog.info? 49).map (·.size) = some 2 := by kernel_rfl
theorem loadC {ops : Array Oper} {rest : List Oper} {o : Oper} {a : Act} {w : World} {Q : Exit → Act → World → Prop} {x : Operand} {b : Nat} {f : Nat → Int} {t : TypeId}
    (hg : Blk w b 2 f t) (hgd : o.guard = none) (ho : o.op = .load 49 x) (hx : a.eval x = .pointer (some ⟨b, 0, none⟩))
    (h : wpList Try.prog ops Q rest (a.put o.dst (.agg (mk 2 f))) w) : wpList Try.prog ops Q (o :: rest) a w :=
  wpList_load_blk hgd _ x ho b 2 f t _ hx hg Try.underlying49 rfl sizeC h
theorem storeC {ops : Array Oper} {rest : List Oper} {o : Oper} {a : Act} {w : World} {Q : Exit → Act → World → Prop} {x y : Operand} {b : Nat} {f g : Nat → Int} {t : TypeId}
    (hg : Blk w b 2 f t) (hgd : o.guard = none) (ho : o.op = .store 49 x y) (hx : a.eval x = .pointer (some ⟨b, 0, none⟩)) (hy : a.eval y = .agg (mk 2 g))
    (h : wpList Try.prog ops Q rest (a.put o.dst undef) (w.setRow b (mk 2 g))) : wpList Try.prog ops Q (o :: rest) a w :=
  wpList_store_blk hgd _ x y ho b 2 f g t hx hy hg sizeC h
theorem loadPC {ops : Array Oper} {rest : List Oper} {o : Oper} {a : Act} {w : World} {Q : Exit → Act → World → Prop} {x : Operand} {b n off : Nat} {f : Nat → Int} {t : TypeId}
    (hg : Blk w b n f t) (hm : off + 2 ≤ n) (hgd : o.guard = none) (ho : o.op = .load 49 x) (hx : a.eval x = .pointer (some ⟨b, off, none⟩))
    (h : wpList Try.prog ops Q rest (a.put o.dst (.agg (mk 2 (fun i => f (off + i))))) w) : wpList Try.prog ops Q (o :: rest) a w :=
  wpList_load_part hgd _ x ho b n off 2 f t _ hx hg hm Try.underlying49 rfl sizeC h
theorem storePC {ops : Array Oper} {rest : List Oper} {o : Oper} {a : Act} {w : World} {Q : Exit → Act → World → Prop} {x y : Operand} {b n off : Nat} {f g : Nat → Int} {t : TypeId}
    (hg : Blk w b n f t) (hm : off + 2 ≤ n) (hgd : o.guard = none) (ho : o.op = .store 49 x y) (hx : a.eval x = .pointer (some ⟨b, off, none⟩)) (hy : a.eval y = .agg (mk 2 g))
    (h : wpList Try.prog ops Q rest (a.put o.dst undef) (w.setRow b (mk n (patch f off 2 g)))) : wpList Try.prog ops Q (o :: rest) a w :=
  wpList_store_part hgd _ x y ho b n off 2 f g t hx hy hg hm sizeC h
theorem retcC {fn : Func} {R : Ending → World → Prop} {a : Act} {w : World} {p : Tmp} {t : TypeId} {b : Nat} {f : Nat → Int}
    (hg : Blk w b 2 f t) (h : fn.results = #[.cell p 49]) (hp : a.tmps.getD p undef = .pointer (some ⟨b, 0, none⟩)) (hdf : a.defers = [])
    (hR : R (.returned (.agg (mk 2 f))) w) : bodyPost Try.prog fn R .ret a w := ret_c Try.underlying49 rfl sizeC h hp hdf hg hR
theorem retctC {fn : Func} {R : Ending → World → Prop} {a : Act} {w : World} {p q : Tmp} {t : TypeId} {b : Nat} {f : Nat → Int}
    (hg : Blk w b 2 f t) (h : fn.results = #[.cell p 49, .tmp q]) (hp : a.tmps.getD p undef = .pointer (some ⟨b, 0, none⟩)) (hdf : a.defers = [])
    (hR : R (.returned (.tuple #[.agg (mk 2 f), a.tmps.getD q undef])) w) : bodyPost Try.prog fn R .ret a w := ret_ct Try.underlying49 rfl sizeC h hp hdf hg hR
theorem retcttC {fn : Func} {R : Ending → World → Prop} {a : Act} {w : World} {p q r : Tmp} {t : TypeId} {b : Nat} {f : Nat → Int}
    (hg : Blk w b 2 f t) (h : fn.results = #[.cell p 49, .tmp q, .tmp r]) (hp : a.tmps.getD p undef = .pointer (some ⟨b, 0, none⟩)) (hdf : a.defers = [])
    (hR : R (.returned (.tuple #[.agg (mk 2 f), a.tmps.getD q undef, a.tmps.getD r undef])) w) : bodyPost Try.prog fn R .ret a w := ret_ctt Try.underlying49 rfl sizeC h hp hdf hg hR
theorem sizeN : (Try.prog.info? 60).map (·.size) = some 18 := by kernel_rfl
theorem loadN {ops : Array Oper} {rest : List Oper} {o : Oper} {a : Act} {w : World} {Q : Exit → Act → World → Prop} {x : Operand} {b : Nat} {f : Nat → Int} {t : TypeId}
    (hg : Blk w b 18 f t) (hgd : o.guard = none) (ho : o.op = .load 60 x) (hx : a.eval x = .pointer (some ⟨b, 0, none⟩))
    (h : wpList Try.prog ops Q rest (a.put o.dst (.agg (mk 18 f))) w) : wpList Try.prog ops Q (o :: rest) a w :=
  wpList_load_blk hgd _ x ho b 18 f t _ hx hg Try.underlying60 rfl sizeN h
theorem storeN {ops : Array Oper} {rest : List Oper} {o : Oper} {a : Act} {w : World} {Q : Exit → Act → World → Prop} {x y : Operand} {b : Nat} {f g : Nat → Int} {t : TypeId}
    (hg : Blk w b 18 f t) (hgd : o.guard = none) (ho : o.op = .store 60 x y) (hx : a.eval x = .pointer (some ⟨b, 0, none⟩)) (hy : a.eval y = .agg (mk 18 g))
    (h : wpList Try.prog ops Q rest (a.put o.dst undef) (w.setRow b (mk 18 g))) : wpList Try.prog ops Q (o :: rest) a w :=
  wpList_store_blk hgd _ x y ho b 18 f g t hx hy hg sizeN h
theorem loadPN {ops : Array Oper} {rest : List Oper} {o : Oper} {a : Act} {w : World} {Q : Exit → Act → World → Prop} {x : Operand} {b n off : Nat} {f : Nat → Int} {t : TypeId}
    (hg : Blk w b n f t) (hm : off + 18 ≤ n) (hgd : o.guard = none) (ho : o.op = .load 60 x) (hx : a.eval x = .pointer (some ⟨b, off, none⟩))
    (h : wpList Try.prog ops Q rest (a.put o.dst (.agg (mk 18 (fun i => f (off + i))))) w) : wpList Try.prog ops Q (o :: rest) a w :=
  wpList_load_part hgd _ x ho b n off 18 f t _ hx hg hm Try.underlying60 rfl sizeN h
theorem storePN {ops : Array Oper} {rest : List Oper} {o : Oper} {a : Act} {w : World} {Q : Exit → Act → World → Prop} {x y : Operand} {b n off : Nat} {f g : Nat → Int} {t : TypeId}
    (hg : Blk w b n f t) (hm : off + 18 ≤ n) (hgd : o.guard = none) (ho : o.op = .store 60 x y) (hx : a.eval x = .pointer (some ⟨b, off, none⟩)) (hy : a.eval y = .agg (mk 18 g))
    (h : wpList Try.prog ops Q rest (a.put o.dst undef) (w.setRow b (mk n (patch f off 18 g)))) : wpList Try.prog ops Q (o :: rest) a w :=
  wpList_store_part hgd _ x y ho b n off 18 f g t hx hy hg hm sizeN h
theorem retcN {fn : Func} {R : Ending → World → Prop} {a : Act} {w : World} {p : Tmp} {t : TypeId} {b : Nat} {f : Nat → Int}
    (hg : Blk w b 18 f t) (h : fn.results = #[.cell p 60]) (hp : a.tmps.getD p undef = .pointer (some ⟨b, 0, none⟩)) (hdf : a.defers = [])
    (hR : R (.returned (.agg (mk 18 f))) w) : bodyPost Try.prog fn R .ret a w := ret_c Try.underlying60 rfl sizeN h hp hdf hg hR
theorem retctN {fn : Func} {R : Ending → World → Prop} {a : Act} {w : World} {p q : Tmp} {t : TypeId} {b : Nat} {f : Nat → Int}
    (hg : Blk w b 18 f t) (h : fn.results = #[.cell p 60, .tmp q]) (hp : a.tmps.getD p undef = .pointer (some ⟨b, 0, none⟩)) (hdf : a.defers = [])
    (hR : R (.returned (.tuple #[.agg (mk 18 f), a.tmps.getD q undef])) w) : bodyPost Try.prog fn R .ret a w := ret_ct Try.underlying60 rfl sizeN h hp hdf hg hR
theorem retcttN {fn : Func} {R : Ending → World → Prop} {a : Act} {w : World} {p q r : Tmp} {t : TypeId} {b : Nat} {f : Nat → Int}
    (hg : Blk w b 18 f t) (h : fn.results = #[.cell p 60, .tmp q, .tmp r]) (hp : a.tmps.getD p undef = .pointer (some ⟨b, 0, none⟩)) (hdf : a.defers = [])
    (hR : R (.returned (.tuple #[.agg (mk 18 f), a.tmps.getD q undef, a.tmps.getD r undef])) w) : bodyPost Try.prog fn R .ret a w := ret_ctt Try.underlying60 rfl sizeN h hp hdf hg hR
theorem sizeS : (Try.prog.info? 111).map (·.size) = some 18 := by kernel_rfl
theorem loadS {ops : Array Oper} {rest : List Oper} {o : Oper} {a : Act} {w : World} {Q : Exit → Act → World → Prop} {x : Operand} {b : Nat} {f : Nat → Int} {t : TypeId}
    (hg : Blk w b 18 f t) (hgd : o.guard = none) (ho : o.op = .load 111 x) (hx : a.eval x = .pointer (some ⟨b, 0, none⟩))
    (h : wpList Try.prog ops Q rest (a.put o.dst (.agg (mk 18 f))) w) : wpList Try.prog ops Q (o :: rest) a w :=
  wpList_load_blk hgd _ x ho b 18 f t _ hx hg Try.underlying111 rfl sizeS h
theorem storeS {ops : Array Oper} {rest : List Oper} {o : Oper} {a : Act} {w : World} {Q : Exit → Act → World → Prop} {x y : Operand} {b : Nat} {f g : Nat → Int} {t : TypeId}
    (hg : Blk w b 18 f t) (hgd : o.guard = none) (ho : o.op = .store 111 x y) (hx : a.eval x = .pointer (some ⟨b, 0, none⟩)) (hy : a.eval y = .agg (mk 18 g))
    (h : wpList Try.prog ops Q rest (a.put o.dst undef) (w.setRow b (mk 18 g))) : wpList Try.prog ops Q (o :: rest) a w :=
  wpList_store_blk hgd _ x y ho b 18 f g t hx hy hg sizeS h
theorem loadPS {ops : Array Oper} {rest : List Oper} {o : Oper} {a : Act} {w : World} {Q : Exit → Act → World → Prop} {x : Operand} {b n off : Nat} {f : Nat → Int} {t : TypeId}
    (hg : Blk w b n f t) (hm : off + 18 ≤ n) (hgd : o.guard = none) (ho : o.op = .load 111 x) (hx : a.eval x = .pointer (some ⟨b, off, none⟩))
    (h : wpList Try.prog ops Q rest (a.put o.dst (.agg (mk 18 (fun i => f (off + i))))) w) : wpList Try.prog ops Q (o :: rest) a w :=
  wpList_load_part hgd _ x ho b n off 18 f t _ hx hg hm Try.underlying111 rfl sizeS h
theorem storePS {ops : Array Oper} {rest : List Oper} {o : Oper} {a : Act} {w : World} {Q : Exit → Act → World → Prop} {x y : Operand} {b n off : Nat} {f g : Nat → Int} {t : TypeId}
    (hg : Blk w b n f t) (hm : off + 18 ≤ n) (hgd : o.guard = none) (ho : o.op = .store 111 x y) (hx : a.eval x = .pointer (some ⟨b, off, none⟩)) (hy : a.eval y = .agg (mk 18 g))
    (h : wpList Try.prog ops Q rest (a.put o.dst undef) (w.setRow b (mk n (patch f off 18 g)))) : wpList Try.prog ops Q (o :: rest) a w :=
  wpList_store_part hgd _ x y ho b n off 18 f g t hx hy hg hm sizeS h
theorem retcS {fn : Func} {R : Ending → World → Prop} {a : Act} {w : World} {p : Tmp} {t : TypeId} {b : Nat} {f : Nat → Int}
    (hg : Blk w b 18 f t) (h : fn.results = #[.cell p 111]) (hp : a.tmps.getD p undef = .pointer (some ⟨b, 0, none⟩)) (hdf : a.defers = [])
    (hR : R (.returned (.agg (mk 18 f))) w) : bodyPost Try.prog fn R .ret a w := ret_c Try.underlying111 rfl sizeS h hp hdf hg hR
theorem retctS {fn : Func} {R : Ending → World → Prop} {a : Act} {w : World} {p q : Tmp} {t : TypeId} {b : Nat} {f : Nat → Int}
    (hg : Blk w b 18 f t) (h : fn.results = #[.cell p 111, .tmp q]) (hp : a.tmps.getD p undef = .pointer (some ⟨b, 0, none⟩)) (hdf : a.defers = [])
    (hR : R (.returned (.tuple #[.agg (mk 18 f), a.tmps.getD q undef])) w) : bodyPost Try.prog fn R .ret a w := ret_ct Try.underlying111 rfl sizeS h hp hdf hg hR
theorem retcttS {fn : Func} {R : Ending → World → Prop} {a : Act} {w : World} {p q r : Tmp} {t : TypeId} {b : Nat} {f : Nat → Int}
    (hg : Blk w b 18 f t) (h : fn.results = #[.cell p 111, .tmp q, .tmp r]) (hp : a.tmps.getD p undef = .pointer (some ⟨b, 0, none⟩)) (hdf : a.defers = [])
    (hR : R (.returned (.tuple #[.agg (mk 18 f), a.tmps.getD q undef, a.tmps.getD r undef])) w) : bodyPost Try.prog fn R .ret a w := ret_ctt Try.underlying111 rfl sizeS h hp hdf hg hR
theorem sizeL : (Try.prog.info? 156).map (·.size) = some 8 := by kernel_rfl
theorem loadL {ops : Array Oper} {rest : List Oper} {o : Oper} {a : Act} {w : World} {Q : Exit → Act → World → Prop} {x : Operand} {b : Nat} {f : Nat → Int} {t : TypeId}
    (hg : Blk w b 8 f t) (hgd : o.guard = none) (ho : o.op = .load 156 x) (hx : a.eval x = .pointer (some ⟨b, 0, none⟩))
    (h : wpList Try.prog ops Q rest (a.put o.dst (.agg (mk 8 f))) w) : wpList Try.prog ops Q (o :: rest) a w :=
  wpList_load_blk hgd _ x ho b 8 f t _ hx hg Try.underlying156 rfl sizeL h
theorem storeL {ops : Array Oper} {rest : List Oper} {o : Oper} {a : Act} {w : World} {Q : Exit → Act → World → Prop} {x y : Operand} {b : Nat} {f g : Nat → Int} {t : TypeId}
    (hg : Blk w b 8 f t) (hgd : o.guard = none) (ho : o.op = .store 156 x y) (hx : a.eval x = .pointer (some ⟨b, 0, none⟩)) (hy : a.eval y = .agg (mk 8 g))
    (h : wpList Try.prog ops Q rest (a.put o.dst undef) (w.setRow b (mk 8 g))) : wpList Try.prog ops Q (o :: rest) a w :=
  wpList_store_blk hgd _ x y ho b 8 f g t hx hy hg sizeL h
theorem loadPL {ops : Array Oper} {rest : List Oper} {o : Oper} {a : Act} {w : World} {Q : Exit → Act → World → Prop} {x : Operand} {b n off : Nat} {f : Nat → Int} {t : TypeId}
    (hg : Blk w b n f t) (hm : off + 8 ≤ n) (hgd : o.guard = none) (ho : o.op = .load 156 x) (hx : a.eval x = .pointer (some ⟨b, off, none⟩))
    (h : wpList Try.prog ops Q rest (a.put o.dst (.agg (mk 8 (fun i => f (off + i))))) w) : wpList Try.prog ops Q (o :: rest) a w :=
  wpList_load_part hgd _ x ho b n off 8 f t _ hx hg hm Try.underlying156 rfl sizeL h
theorem storePL {ops : Array Oper} {rest : List Oper} {o : Oper} {a : Act} {w : World} {Q : Exit → Act → World → Prop} {x y : Operand} {b n off : Nat} {f g : Nat → Int} {t : TypeId}
    (hg : Blk w b n f t) (hm : off + 8 ≤ n) (hgd : o.guard = none) (ho : o.op = .store 156 x y) (hx : a.eval x = .pointer (some ⟨b, off, none⟩)) (hy : a.eval y = .agg (mk 8 g))
    (h : wpList Try.prog ops Q rest (a.put o.dst undef) (w.setRow b (mk n (patch f off 8 g)))) : wpList Try.prog ops Q (o :: rest) a w :=
  wpList_store_part hgd _ x y ho b n off 8 f g t hx hy hg hm sizeL h
theorem retcL {fn : Func} {R : Ending → World → Prop} {a : Act} {w : World} {p : Tmp} {t : TypeId} {b : Nat} {f : Nat → Int}
    (hg : Blk w b 8 f t) (h : fn.results = #[.cell p 156]) (hp : a.tmps.getD p undef = .pointer (some ⟨b, 0, none⟩)) (hdf : a.defers = [])
    (hR : R (.returned (.agg (mk 8 f))) w) : bodyPost Try.prog fn R .ret a w := ret_c Try.underlying156 rfl sizeL h hp hdf hg hR
theorem retctL {fn : Func} {R : Ending → World → Prop} {a : Act} {w : World} {p q : Tmp} {t : TypeId} {b : Nat} {f : Nat → Int}
    (hg : Blk w b 8 f t) (h : fn.results = #[.cell p 156, .tmp q]) (hp : a.tmps.getD p undef = .pointer (some ⟨b, 0, none⟩)) (hdf : a.defers = [])
    (hR : R (.returned (.tuple #[.agg (mk 8 f), a.tmps.getD q undef])) w) : bodyPost Try.prog fn R .ret a w := ret_ct Try.underlying156 rfl sizeL h hp hdf hg hR
theorem retcttL {fn : Func} {R : Ending → World → Prop} {a : Act} {w : World} {p q r : Tmp} {t : TypeId} {b : Nat} {f : Nat → Int}
    (hg : Blk w b 8 f t) (h : fn.results = #[.cell p 156, .tmp q, .tmp r]) (hp : a.tmps.getD p undef = .pointer (some ⟨b, 0, none⟩)) (hdf : a.defers = [])
    (hR : R (.returned (.tuple #[.agg (mk 8 f), a.tmps.getD q undef, a.tmps.getD r undef])) w) : bodyPost Try.prog fn R .ret a w := ret_ctt Try.underlying156 rfl sizeL h hp hdf hg hR
theorem sizeK : (Try.prog.info? 86).map (·.size) = some 16 := by kernel_rfl
theorem loadK {ops : Array Oper} {rest : List Oper} {o : Oper} {a : Act} {w : World} {Q : Exit → Act → World → Prop} {x : Operand} {b : Nat} {f : Nat → Int} {t : TypeId}
    (hg : Blk w b 16 f t) (hgd : o.guard = none) (ho : o.op = .load 86 x) (hx : a.eval x = .pointer (some ⟨b, 0, none⟩))
    (h : wpList Try.prog ops Q rest (a.put o.dst (.agg (mk 16 f))) w) : wpList Try.prog ops Q (o :: rest) a w :=
  wpList_load_blk hgd _ x ho b 16 f t _ hx hg Try.underlying86 rfl sizeK h
theorem storeK {ops : Array Oper} {rest : List Oper} {o : Oper} {a : Act} {w : World} {Q : Exit → Act → World → Prop} {x y : Operand} {b : Nat} {f g : Nat → Int} {t : TypeId}
    (hg : Blk w b 16 f t) (hgd : o.guard = none) (ho : o.op = .store 86 x y) (hx : a.eval x = .pointer (some ⟨b, 0, none⟩)) (hy : a.eval y = .agg (mk 16 g))
    (h : wpList Try.prog ops Q rest (a.put o.dst undef) (w.setRow b (mk 16 g))) : wpList Try.prog ops Q (o :: rest) a w :=
  wpList_store_blk hgd _ x y ho b 16 f g t hx hy hg sizeK h
theorem loadPK {ops : Array Oper} {rest : List Oper} {o : Oper} {a : Act} {w : World} {Q : Exit → Act → World → Prop} {x : Operand} {b n off : Nat} {f : Nat → Int} {t : TypeId}
    (hg : Blk w b n f t) (hm : off + 16 ≤ n) (hgd : o.guard = none) (ho : o.op = .load 86 x) (hx : a.eval x = .pointer (some ⟨b, off, none⟩))
    (h : wpList Try.prog ops Q rest (a.put o.dst (.agg (mk 16 (fun i => f (off + i))))) w) : wpList Try.prog ops Q (o :: rest) a w :=
  wpList_load_part hgd _ x ho b n off 16 f t _ hx hg hm Try.underlying86 rfl sizeK h
theorem storePK {ops : Array Oper} {rest : List Oper} {o : Oper} {a : Act} {w : World} {Q : Exit → Act → World → Prop} {x y : Operand} {b n off : Nat} {f g : Nat → Int} {t : TypeId}
    (hg : Blk w b n f t) (hm : off + 16 ≤ n) (hgd : o.guard = none) (ho : o.op = .store 86 x y) (hx : a.eval x = .pointer (some ⟨b, off, none⟩)) (hy : a.eval y = .agg (mk 16 g))
    (h : wpList Try.prog ops Q rest (a.put o.dst undef) (w.setRow b (mk n (patch f off 16 g)))) : wpList Try.prog ops Q (o :: rest) a w :=
  wpList_store_part hgd _ x y ho b n off 16 f g t hx hy hg hm sizeK h
theorem retcK {fn : Func} {R : Ending → World → Prop} {a : Act} {w : World} {p : Tmp} {t : TypeId} {b : Nat} {f : Nat → Int}
    (hg : Blk w b 16 f t) (h : fn.results = #[.cell p 86]) (hp : a.tmps.getD p undef = .pointer (some ⟨b, 0, none⟩)) (hdf : a.defers = [])
    (hR : R (.returned (.agg (mk 16 f))) w) : bodyPost Try.prog fn R .ret a w := ret_c Try.underlying86 rfl sizeK h hp hdf hg hR
theorem retctK {fn : Func} {R : Ending → World → Prop} {a : Act} {w : World} {p q : Tmp} {t : TypeId} {b : Nat} {f : Nat → Int}
    (hg : Blk w b 16 f t) (h : fn.results = #[.cell p 86, .tmp q]) (hp : a.tmps.getD p undef = .pointer (some ⟨b, 0, none⟩)) (hdf : a.defers = [])
    (hR : R (.returned (.tuple #[.agg (mk 16 f), a.tmps.getD q undef])) w) : bodyPost Try.prog fn R .ret a w := ret_ct Try.underlying86 rfl sizeK h hp hdf hg hR
theorem retcttK {fn : Func} {R : Ending → World → Prop} {a : Act} {w : World} {p q r : Tmp} {t : TypeId} {b : Nat} {f : Nat → Int}
    (hg : Blk w b 16 f t) (h : fn.results = #[.cell p 86, .tmp q, .tmp r]) (hp : a.tmps.getD p undef = .pointer (some ⟨b, 0, none⟩)) (hdf : a.defers = [])
    (hR : R (.returned (.tuple #[.agg (mk 16 f), a.tmps.getD q undef, a.tmps.getD r undef])) w) : bodyPost Try.prog fn R .ret a w := ret_ctt Try.underlying86 rfl sizeK h hp hdf hg hR
theorem size1 : (Try.prog.info? 3).map (·.size) = some 1 := by kernel_rfl
theorem idxG (f : Nat → Int) (k : Nat) (hk : k < 4) (w : World) : (Instr.index 25 (.agg (mk 16 f)) (.int .i64 (k : Int))).run Try.prog w = .ok (.agg (mk 4 (fun c => f (k * 4 + c)))) w :=
  run_index_row Try.underlying25 Try.underlying24 rfl sizeR f hk (by omega) w
theorem idxR (f : Nat → Int) (k : Nat) (hk : k < 4) (w : World) : (Instr.index 24 (.agg (mk 4 f)) (.int .i64 (k : Int))).run Try.prog w = .ok (.int .i64 (f k)) w :=
  run_index_int Try.underlying24 Try.underlying3 size1 f hk w
end Go.Proofs.Ytpiegllffkjneaa
