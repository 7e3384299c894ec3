/-
  Placements as the program keeps them: three numbers, read, written and built; rows of them, and the laws' own conversions and comparisons. No condition.
-/
import Derived.Test.YtkocfpldgjfpeaaBaseA
import Derived.Test.YtkocfpldgjfpeaaRowsKit
import Derived.Test.YtkocfpldgjfpeaaWorstPlain
import Derived.Test.YtkocfpldgjfpeaaCellA
namespace Go.Proofs.Ytkocfpldgjfpeaa
open Go.RowKit Plain
attribute [local go_sem] store_new
set_option linter.unusedVariables false
set_option linter.unusedSimpArgs false
theorem zero3 : (#[.int .i64 0, .int .i64 0, .int .i64 0] : Array Value) = mk 3 (fun _ => 0) := rfl
theorem sizeA : (Try.prog.info? 110).map (·.size) = some 3 := by kernel_rfl
theorem loadA {ops : Array Oper} {rest : List Oper} {o : Oper} {a : Act} {w : World} {Q : Exit → Act → World → Prop} {x : Operand} {b : Nat} {f : Nat → Int} {t : TypeId}
    (hg : Blk w b 3 f t) (hgd : o.guard = none) (ho : o.op = .load 110 x) (hx : a.eval x = .pointer (some ⟨b, 0, none⟩))
    (h : wpList Try.prog ops Q rest (a.put o.dst (.agg (mk 3 f))) w) : wpList Try.prog ops Q (o :: rest) a w :=
  wpList_load_blk hgd _ x ho b 3 f t _ hx hg Try.underlying110 rfl sizeA h
theorem storeA {ops : Array Oper} {rest : List Oper} {o : Oper} {a : Act} {w : World} {Q : Exit → Act → World → Prop} {x y : Operand} {b : Nat} {f g : Nat → Int} {t : TypeId}
    (hg : Blk w b 3 f t) (hgd : o.guard = none) (ho : o.op = .store 110 x y) (hx : a.eval x = .pointer (some ⟨b, 0, none⟩)) (hy : a.eval y = .agg (mk 3 g))
    (h : wpList Try.prog ops Q rest (a.put o.dst undef) (w.setRow b (mk 3 g))) : wpList Try.prog ops Q (o :: rest) a w :=
  wpList_store_blk hgd _ x y ho b 3 f g t hx hy hg sizeA h
theorem loadPA {ops : Array Oper} {rest : List Oper} {o : Oper} {a : Act} {w : World} {Q : Exit → Act → World → Prop} {x : Operand} {b n off : Nat} {f : Nat → Int} {t : TypeId}
    (hg : Blk w b n f t) (hm : off + 3 ≤ n) (hgd : o.guard = none) (ho : o.op = .load 110 x) (hx : a.eval x = .pointer (some ⟨b, off, none⟩))
    (h : wpList Try.prog ops Q rest (a.put o.dst (.agg (mk 3 (fun i => f (off + i))))) w) : wpList Try.prog ops Q (o :: rest) a w :=
  wpList_load_part hgd _ x ho b n off 3 f t _ hx hg hm Try.underlying110 rfl sizeA h
theorem storePA {ops : Array Oper} {rest : List Oper} {o : Oper} {a : Act} {w : World} {Q : Exit → Act → World → Prop} {x y : Operand} {b n off : Nat} {f g : Nat → Int} {t : TypeId}
    (hg : Blk w b n f t) (hm : off + 3 ≤ n) (hgd : o.guard = none) (ho : o.op = .store 110 x y) (hx : a.eval x = .pointer (some ⟨b, off, none⟩)) (hy : a.eval y = .agg (mk 3 g))
    (h : wpList Try.prog ops Q rest (a.put o.dst undef) (w.setRow b (mk n (patch f off 3 g)))) : wpList Try.prog ops Q (o :: rest) a w :=
  wpList_store_part hgd _ x y ho b n off 3 f g t hx hy hg hm sizeA h
theorem retcA {fn : Func} {R : Ending → World → Prop} {a : Act} {w : World} {p : Tmp} {t : TypeId} {b : Nat} {f : Nat → Int}
    (hg : Blk w b 3 f t) (h : fn.results = #[.cell p 110]) (hp : a.tmps.getD p undef = .pointer (some ⟨b, 0, none⟩)) (hdf : a.defers = [])
    (hR : R (.returned (.agg (mk 3 f))) w) : bodyPost Try.prog fn R .ret a w := ret_c Try.underlying110 rfl sizeA h hp hdf hg hR
theorem retctA {fn : Func} {R : Ending → World → Prop} {a : Act} {w : World} {p q : Tmp} {t : TypeId} {b : Nat} {f : Nat → Int}
    (hg : Blk w b 3 f t) (h : fn.results = #[.cell p 110, .tmp q]) (hp : a.tmps.getD p undef = .pointer (some ⟨b, 0, none⟩)) (hdf : a.defers = [])
    (hR : R (.returned (.tuple #[.agg (mk 3 f), a.tmps.getD q undef])) w) : bodyPost Try.prog fn R .ret a w := ret_ct Try.underlying110 rfl sizeA h hp hdf hg hR
theorem retcttA {fn : Func} {R : Ending → World → Prop} {a : Act} {w : World} {p q r : Tmp} {t : TypeId} {b : Nat} {f : Nat → Int}
    (hg : Blk w b 3 f t) (h : fn.results = #[.cell p 110, .tmp q, .tmp r]) (hp : a.tmps.getD p undef = .pointer (some ⟨b, 0, none⟩)) (hdf : a.defers = [])
    (hR : R (.returned (.tuple #[.agg (mk 3 f), a.tmps.getD q undef, a.tmps.getD r undef])) w) : bodyPost Try.prog fn R .ret a w := ret_ctt Try.underlying110 rfl sizeA h hp hdf hg hR
theorem execAA {o : Oper} {ev : Operand → Value} {w : World} {b n off : Nat} {f : Nat → Int} {x : Operand} (hg : CAt w b n f) (hm : off + 3 ≤ n) (ho : o.op = .load 110 x) (hx : ev x = .pointer (some ⟨b, off, none⟩)) :
    (execOp ev o).run Try.prog w = .ok (.value (.agg (mk 3 (fun i => f (off + i))))) w := exec_load_at _ x ho hx hg hm Try.underlying110 rfl sizeA
theorem loadAA {ops : Array Oper} {rest : List Oper} {o : Oper} {a : Act} {w : World} {Q : Exit → Act → World → Prop} {x : Operand} {b n off : Nat} {f : Nat → Int} (hg : CAt w b n f) (hm : off + 3 ≤ n)
    (hgd : o.guard = none) (ho : o.op = .load 110 x) (hx : a.eval x = .pointer (some ⟨b, off, none⟩))
    (h : wpList Try.prog ops Q rest (a.put o.dst (.agg (mk 3 (fun i => f (off + i))))) w) : wpList Try.prog ops Q (o :: rest) a w :=
  wpList_load_at hgd _ x ho b n off 3 f _ hx hg hm Try.underlying110 rfl sizeA h
theorem infoA : (Try.prog.info? 110).map (fun i => (i.zero, i.size, i.bytes)) = some (some (.agg (mk 3 fun _ => 0)), 3, 24) := by kernel_rfl
/-- Three numbers. -/
def tri (a b c : Int) : Nat → Int := fun j => if j = 0 then a else if j = 1 then b else c
theorem mk_tri (a b c : Int) : (#[.int .i64 a, .int .i64 b, .int .i64 c] : Array Value) = mk 3 (tri a b c) := rfl
theorem tri_pl (p : Nat × Nat) : mk 3 (tri ((p.1 / 4 : Nat) : Int) ((p.1 % 4 : Nat) : Int) ((p.2 : Nat) : Int)) = mk 3 (plF p) := rfl
theorem run_buildA (a b c : Int) (w : World) : (Instr.build 110 #[(0, .int .i64 a), (1, .int .i64 b), (2, .int .i64 c)]).run Try.prog w = .ok (.agg (mk 3 (tri a b c))) w := by kernel_rfl
theorem run_buildA0 (w : World) : (Instr.build 110 #[]).run Try.prog w = .ok (.agg (mk 3 fun _ => 0)) w := by kernel_rfl
theorem exec_buildA {o : Oper} {ev : Operand → Value} {w : World} (x y z : Operand) (ho : o.op = .build 110 #[(0, x), (1, y), (2, z)]) {a b c : Int}
    (hx : ev x = .int .i64 a) (hy : ev y = .int .i64 b) (hz : ev z = .int .i64 c) : (execOp ev o).run Try.prog w = .ok (.value (.agg (mk 3 (tri a b c)))) w := by
  have hr := run_buildA a b c w
  simp [execOp, ho, hx, hy, hz, hr, Result.andThen]
theorem wpl_buildA3 {w : World} {ops : Array Oper} {rest : List Oper} {o : Oper} {a : Act} {Q : Exit → Act → World → Prop} (x y z : Operand) (hg : o.guard = none) (ho : o.op = .build 110 #[(0, x), (1, y), (2, z)]) {i j k : Int}
    (hx : a.eval x = .int .i64 i) (hy : a.eval y = .int .i64 j) (hz : a.eval z = .int .i64 k) (h : wpList Try.prog ops Q rest (a.put o.dst (.agg (mk 3 (tri i j k)))) w) : wpList Try.prog ops Q (o :: rest) a w := by
  refine wpList_plain hg fun K' hK' => ?_
  unfold Oper.wp
  have hr := run_buildA i j k w
  simp [execOp, ho, hx, hy, hz, hr, Result.andThen]
  exact hK' _ _ h
/-- Two placements, one behind the other. -/
def two3 (s u : Nat → Int) : Nat → Int := fun j => if j < 3 then s j else u (j - 3)
theorem fill_two3_at (s u : Nat → Int) (a b c d e f : Value) : Instr.fill (fun i => some (i * 3, 3)) #[a, b, c, d, e, f] [(0, .agg (mk 3 s)), (1, .agg (mk 3 u))] = some (mk 6 (two3 s u)) := by kernel_rfl
theorem fill_two3 (s u : Nat → Int) (cs : Array Value) (hc : cs.size = 6) : Instr.fill (fun i => some (i * 3, 3)) cs [(0, .agg (mk 3 s)), (1, .agg (mk 3 u))] = some (mk 6 (two3 s u)) := by
  obtain ⟨l⟩ := cs
  have hl : l.length = 6 := by simpa using hc
  match l, hl with
  | [a, b, c, d, e, f], _ => exact fill_two3_at s u a b c d e f
/-- The cells that a row owns, told by the empty ones of a board. -/
theorem empties_at {w : World} {base g cap n : Nat} {f : Nat → Int} (h : OwnsCells w base (.slice (some ⟨g, 0, none⟩) n cap) n (empL f 16)) (hn : n = empN f 16 := by rfl) : CAt w g (n * 2) (empF f) := by
  subst hn
  have hl := emp_len f 16
  unfold OwnsCells at h
  rw [ints_mk, hl] at h
  obtain ⟨g', c', e, _, hc⟩ := CRow.of_own h
  cases e
  exact hc
theorem owns_succ2 {w : World} {b e size n : Nat} {v : Value} {xs : List Value} (h : w.ownsRow b e size v (n + 2) xs) : ∃ g cap, v = .slice (some ⟨g, 0, none⟩) (n + 2) cap := ownsRow_succ (k := n + 1) h
theorem own_apart {w : World} {b b' : Nat} {e e' : TypeId} {s s' n n' : Nat} {v v' : Value} {xs xs' : List Value} (h : w.ownsRow b e s v n xs) (h' : w.ownsRow b' e' s' v' n' xs') (he : e ≠ e') : v.ownBlock = none ∨ v.ownBlock ≠ v'.ownBlock := by
  rcases h.2 with ⟨rfl, _⟩ | ⟨g, cap, cur, rfl, _, hg, _⟩
  · exact Or.inl rfl
  · refine Or.inr fun hv => ?_
    rcases h'.2 with ⟨rfl, _⟩ | ⟨g', cap', cur', rfl, _, hg', _⟩
    · simp [Value.ownBlock] at hv
    · simp only [Value.ownBlock, Option.some.injEq] at hv
      subst hv; rw [hg] at hg'; cases hg'; exact he rfl
/-- The slice value v owns a row of n lists. -/
def OwnsM (t : TypeId) (m : Nat) (w : World) (base : Nat) (v : Value) (n : Nat) (L : List (List Int)) : Prop := w.ownsRow base t m v n (L.flatten.map (Value.int .i64))
theorem OwnsM.out {t : TypeId} {m : Nat} {w : World} {base : Nat} {v : Value} {n : Nat} {L : List (List Int)} (h : OwnsM t m w base v n L) (hn : n = L.length) : OwnsL t m w base v L := by subst hn; exact h
theorem pl_all (L : List (Nat × Nat)) : AllL 3 (plL L) := fun x hx => by obtain ⟨p, _, rfl⟩ := List.mem_map.1 hx; exact cl_len _ _
theorem pl_flat {f : Nat → Int} {i j : Nat} (h : (emI f 16)[i]? = some j) (hr : empF f (i * 2) = ((j / 4 : Nat) : Int)) (hc : empF f (i * 2 + 1) = ((j % 4 : Nat) : Int)) :
    ((plL (plN f i)).flatten.map (Value.int .i64)) ++ (mk (2 * 3) fun q => two3 (tri (empF f (i * 2)) (empF f (i * 2 + 1)) 1) (tri (empF f (i * 2)) (empF f (i * 2 + 1)) 2) (0 + q)).toList = (plL (plN f (i + 1))).flatten.map (Value.int .i64) := by
  have e : plL (plN f (i + 1)) = plL (plN f i) ++ [cl 3 (plF (j, 1)), cl 3 (plF (j, 2))] := by rw [plN_step h]; simp [plL]
  rw [e, List.flatten_append, List.map_append, hr, hc]
  rfl
end Go.Proofs.Ytkocfpldgjfpeaa
