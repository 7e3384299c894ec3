/-
  Placements as the program keeps them: three numbers, read, written and built; rows of them, and the laws' own conversions and comparisons. No condition.
-/
import Derived.Test.YtlboglcpbbnbcaaBaseA
import Derived.Test.YtlboglcpbbnbcaaRowsKit
import Derived.Test.YtlboglcpbbnbcaaWorstPlain
import Derived.Test.YtlboglcpbbnbcaaCellA
namespace Go.Proofs.Ytlboglcpbbnbcaa
open Go.RowKit Plain
attribute [local go_sem] store_new
set_option linter.unusedVariables false
set_option linter.unusedSimpArgs false
theorem zero3 : (#[.int .i64 0, .int .i64 0, .int .i64 0] : Array Value) = mk 3 (fun _ => 0) := rfl
theorem sizeA : (Try.prog.info? 34).map (·.size) = some 3 := by kernel_rfl
theorem loadA {ops : Array Oper} {rest : List Oper} {o : Oper} {a : Act} {w : World} {Q : Exit → Act → World → Prop} {x : Operand} {b : Nat} {f : Nat → Int} {t : TypeId}
    (hg : Blk w b 3 f t) (hgd : o.guard = none) (ho : o.op = .load 34 x) (hx : a.eval x = .pointer (some ⟨b, 0, none⟩))
    (h : wpList Try.prog ops Q rest (a.put o.dst (.agg (mk 3 f))) w) : wpList Try.prog ops Q (o :: rest) a w :=
  wpList_load_blk hgd _ x ho b 3 f t _ hx hg Try.underlying34 rfl sizeA h
theorem storeA {ops : Array Oper} {rest : List Oper} {o : Oper} {a : Act} {w : World} {Q : Exit → Act → World → Prop} {x y : Operand} {b : Nat} {f g : Nat → Int} {t : TypeId}
    (hg : Blk w b 3 f t) (hgd : o.guard = none) (ho : o.op = .store 34 x y) (hx : a.eval x = .pointer (some ⟨b, 0, none⟩)) (hy : a.eval y = .agg (mk 3 g))
    (h : wpList Try.prog ops Q rest (a.put o.dst undef) (w.setRow b (mk 3 g))) : wpList Try.prog ops Q (o :: rest) a w :=
  wpList_store_blk hgd _ x y ho b 3 f g t hx hy hg sizeA h
theorem loadPA {ops : Array Oper} {rest : List Oper} {o : Oper} {a : Act} {w : World} {Q : Exit → Act → World → Prop} {x : Operand} {b n off : Nat} {f : Nat → Int} {t : TypeId}
    (hg : Blk w b n f t) (hm : off + 3 ≤ n) (hgd : o.guard = none) (ho : o.op = .load 34 x) (hx : a.eval x = .pointer (some ⟨b, off, none⟩))
    (h : wpList Try.prog ops Q rest (a.put o.dst (.agg (mk 3 (fun i => f (off + i))))) w) : wpList Try.prog ops Q (o :: rest) a w :=
  wpList_load_part hgd _ x ho b n off 3 f t _ hx hg hm Try.underlying34 rfl sizeA h
theorem storePA {ops : Array Oper} {rest : List Oper} {o : Oper} {a : Act} {w : World} {Q : Exit → Act → World → Prop} {x y : Operand} {b n off : Nat} {f g : Nat → Int} {t : TypeId}
    (hg : Blk w b n f t) (hm : off + 3 ≤ n) (hgd : o.guard = none) (ho : o.op = .store 34 x y) (hx : a.eval x = .pointer (some ⟨b, off, none⟩)) (hy : a.eval y = .agg (mk 3 g))
    (h : wpList Try.prog ops Q rest (a.put o.dst undef) (w.setRow b (mk n (patch f off 3 g)))) : wpList Try.prog ops Q (o :: rest) a w :=
  wpList_store_part hgd _ x y ho b n off 3 f g t hx hy hg hm sizeA h
theorem retcA {fn : Func} {R : Ending → World → Prop} {a : Act} {w : World} {p : Tmp} {t : TypeId} {b : Nat} {f : Nat → Int}
    (hg : Blk w b 3 f t) (h : fn.results = #[.cell p 34]) (hp : a.tmps.getD p undef = .pointer (some ⟨b, 0, none⟩)) (hdf : a.defers = [])
    (hR : R (.returned (.agg (mk 3 f))) w) : bodyPost Try.prog fn R .ret a w := ret_c Try.underlying34 rfl sizeA h hp hdf hg hR
theorem retctA {fn : Func} {R : Ending → World → Prop} {a : Act} {w : World} {p q : Tmp} {t : TypeId} {b : Nat} {f : Nat → Int}
    (hg : Blk w b 3 f t) (h : fn.results = #[.cell p 34, .tmp q]) (hp : a.tmps.getD p undef = .pointer (some ⟨b, 0, none⟩)) (hdf : a.defers = [])
    (hR : R (.returned (.tuple #[.agg (mk 3 f), a.tmps.getD q undef])) w) : bodyPost Try.prog fn R .ret a w := ret_ct Try.underlying34 rfl sizeA h hp hdf hg hR
theorem retcttA {fn : Func} {R : Ending → World → Prop} {a : Act} {w : World} {p q r : Tmp} {t : TypeId} {b : Nat} {f : Nat → Int}
    (hg : Blk w b 3 f t) (h : fn.results = #[.cell p 34, .tmp q, .tmp r]) (hp : a.tmps.getD p undef = .pointer (some ⟨b, 0, none⟩)) (hdf : a.defers = [])
    (hR : R (.returned (.tuple #[.agg (mk 3 f), a.tmps.getD q undef, a.tmps.getD r undef])) w) : bodyPost Try.prog fn R .ret a w := ret_ctt Try.underlying34 rfl sizeA h hp hdf hg hR
theorem execAA {o : Oper} {ev : Operand → Value} {w : World} {b n off : Nat} {f : Nat → Int} {x : Operand} (hg : CAt w b n f) (hm : off + 3 ≤ n) (ho : o.op = .load 34 x) (hx : ev x = .pointer (some ⟨b, off, none⟩)) :
    (execOp ev o).run Try.prog w = .ok (.value (.agg (mk 3 (fun i => f (off + i))))) w := exec_load_at _ x ho hx hg hm Try.underlying34 rfl sizeA
theorem loadAA {ops : Array Oper} {rest : List Oper} {o : Oper} {a : Act} {w : World} {Q : Exit → Act → World → Prop} {x : Operand} {b n off : Nat} {f : Nat → Int} (hg : CAt w b n f) (hm : off + 3 ≤ n)
    (hgd : o.guard = none) (ho : o.op = .load 34 x) (hx : a.eval x = .pointer (some ⟨b, off, none⟩))
    (h : wpList Try.prog ops Q rest (a.put o.dst (.agg (mk 3 (fun i => f (off + i))))) w) : wpList Try.prog ops Q (o :: rest) a w :=
  wpList_load_at hgd _ x ho b n off 3 f _ hx hg hm Try.underlying34 rfl sizeA h
theorem infoA : (Try.prog.info? 34).map (fun i => (i.zero, i.size, i.bytes)) = some (some (.agg (mk 3 fun _ => 0)), 3, 24) := by kernel_rfl
theorem wp_buildA {w : World} {o : Oper} {a : Act} {K : Act → World → Prop} {Q : Exit → Act → World → Prop} (x : Operand) (ho : o.op = .buildSlice 26 1 #[(0, x)]) {f : Nat → Int} (hx : a.eval x = .agg (mk 3 f))
    (h : K (a.put o.dst (.slice (some ⟨w.heap.size, 0, none⟩) 1 1)) (w.alloc (.cells (mk 3 f) 34))) : o.wp Try.prog a w K Q := by
  obtain ⟨i0, hi, hz0, hz1, hz2⟩ := info_parts infoA
  refine Go.wp_buildSlice 26 34 1 #[(0, x)] ho (mk 3 f) i0 _ Try.underlying26 hi hz0 (by rw [hz1]; decide) (by rw [hz1]; decide) ?_ h
  rw [hz1]
  have e : (Array.map (fun (p : Nat × Operand) => (p.1, a.eval p.2)) #[(0, x)]).toList = [(0, .agg (mk 3 f))] := by simp [hx]
  show Instr.fill _ _ (Array.map (fun (p : Nat × Operand) => (p.1, a.eval p.2)) #[(0, x)]).toList = _
  rw [e]
  exact fill_one f _ (by simp)
theorem wpl_buildA {w : World} {ops : Array Oper} {rest : List Oper} {o : Oper} {a : Act} {Q : Exit → Act → World → Prop} (x : Operand) (hg : o.guard = none) (ho : o.op = .buildSlice 26 1 #[(0, x)]) {f : Nat → Int} (hx : a.eval x = .agg (mk 3 f))
    (h : wpList Try.prog ops Q rest (a.put o.dst (.slice (some ⟨w.heap.size, 0, none⟩) 1 1)) (w.alloc (.cells (mk 3 f) 34))) : wpList Try.prog ops Q (o :: rest) a w :=
  wpList_plain hg fun _ hK => wp_buildA x ho hx (hK _ _ h)
set_option maxHeartbeats 400000 in
theorem toIntA3_any (f : Nat → Int) (w : World) :
    Calls Try.prog 21 #[.agg (mk 3 f)] w fun e w' => e = .returned (.agg (mk 3 f)) ∧ Below w.heap.size w w' := by
  have z4 := zero4
  have z2 := zero2
  have z3 := zero3
  go_enter Try.func21, Try.ntmps21
  go_wp2_with fail
  have K1 := ((Blk.new w 3 f 34).alloc (.cells (mk 3 fun _ => 0) 34)).alloc (.cells (mk 3 fun _ => 0) 34)
  have K2 := (Blk.new (w.alloc (.cells (mk 3 f) 34)) 3 (fun _ => 0) 34).alloc (.cells (mk 3 fun _ => 0) 34)
  have K3 := Blk.new ((w.alloc (.cells (mk 3 f) 34)).alloc (.cells (mk 3 fun _ => 0) 34)) 3 (fun _ => 0) 34
  have HB := Lib.hid ((((Below.refl w.heap.size w).alloc (Nat.le_refl _) (.cells (mk 3 f) 34)).alloc (by simp) (.cells (mk 3 fun _ => 0) 34)).alloc (by simp; omega) (.cells (mk 3 fun _ => 0) 34))
  simp only [World.size_alloc] at K1 K2 K3
  generalize ((w.alloc (.cells (mk 3 f) 34)).alloc (.cells (mk 3 fun _ => 0) 34)).alloc (.cells (mk 3 fun _ => 0) 34) = w1 at *
  go_loopg [4] 3 (fun g s4 wr => ∃ r : Nat, r + g = 3 ∧ s4 = .int .i64 r ∧ Blk wr w.heap.size 3 f 34 ∧ Blk wr (w.heap.size + 1) 3 (fun _ => 0) 34 ∧ Blk wr (w.heap.size + 1 + 1) 3 (upto f r) 34 ∧ Hid (Below w.heap.size w wr))
  case atStart => exact ⟨0, by omega, rfl, K1, K2, K3.congr fun j _ => (upto_zero f j).symm, HB⟩
  case round =>
    obtain ⟨r, hrg, rfl, k1, k2, k3, hb⟩ := hrel
    cases gk with
    | zero =>
      have hr : ¬ ((r : Int) < 3) := by omega
      have HR : Hid (r = 3) := by show r = 3; omega
      clear hrg
      go_wp2_with (first | ((with_reducible show wpList _ _ _ (Oper.mk _ (Op.load 34 _) _ _ _ _ :: _) _ _); refine loadA (k3) rfl rfl rfl ?_) | ((with_reducible show wpList _ _ _ (Oper.mk _ (Op.store 34 _ _) _ _ _ _ :: _) _ _); refine storeA (k2) rfl rfl rfl rfl ?_))
      try simp only [Exit.inBlock, Exit.then]
      refine retcA (k2.row 3 _) rfl rfl rfl ⟨?_, below_setRow hb.out (by omega) _⟩
      rw [HR.out, mk_congr (g := f) (fun j hj => upto_all hj)]
    | succ g =>
      have hr4 : (r : Int) < 3 := by omega
      have c1 := k1.cell (i := r) (by omega)
      have c3 := k3.cell (i := r) (by omega)
      have f3 := k3.free r
      go_wp2_with fail
      go_roundg g
      case rel =>
        exact ⟨r + 1, by omega, by go_num, k1.setOther _ _ (by dsimp only; omega), k2.setOther _ _ (by dsimp only; omega), (k3.set (by omega) _).congr fun j _ => upto_step f r j, hb.out.setCell (by dsimp only; omega) _⟩
      case measure => omega
set_option maxHeartbeats 400000 in
theorem eqIntA3_same (f : Nat → Int) (w : World) :
    Calls Try.prog 28 #[.agg (mk 3 f), .agg (mk 3 f)] w fun e w' => e = .returned (.bool true) ∧ Below w.heap.size w w' := by
  go_enter Try.func28, Try.ntmps28
  go_wp2_with fail
  have K1 := (Blk.new w 3 f 34).alloc (.cells (mk 3 f) 34)
  have K2 := Blk.new (w.alloc (.cells (mk 3 f) 34)) 3 f 34
  have HB := Lib.hid (((Below.refl w.heap.size w).alloc (Nat.le_refl _) (.cells (mk 3 f) 34)).alloc (by simp) (.cells (mk 3 f) 34))
  simp only [World.size_alloc] at K1 K2
  generalize (w.alloc (.cells (mk 3 f) 34)).alloc (.cells (mk 3 f) 34) = w1 at *
  go_loopg [5] 3 (fun g s5 wr => ∃ r : Nat, r + g = 3 ∧ s5 = .int .i64 r ∧ Blk wr w.heap.size 3 f 34 ∧ Blk wr (w.heap.size + 1) 3 f 34 ∧ Hid (Below w.heap.size w wr))
  case atStart => exact ⟨0, by omega, rfl, K1, K2, HB⟩
  case round =>
    obtain ⟨r, hrg, rfl, k1, k2, hb⟩ := hrel
    cases gk with
    | zero =>
      have hr : ¬ ((r : Int) < 3) := by omega
      clear hrg
      go_wp2_with fail
      go_ret
      exact ⟨rfl, hb.out⟩
    | succ g =>
      have hr0 : (0 : Int) ≤ (r : Int) := by omega
      have hr4 : (r : Int) < 3 := by omega
      have c1 := k1.cell (i := r) (by omega)
      have c2 := k2.cell (i := r) (by omega)
      generalize f r = x at c1 c2
      go_wp2_with fail
      go_quiet (fail)
      go_wp2_with fail
      go_roundg g
      case rel => exact ⟨r + 1, by omega, by go_num, k1.drewN _, k2.drewN _, below_drewN hb.out _⟩
      case measure => omega
/-- Three numbers. -/
def tri (a b c : Int) : Nat → Int := fun j => if j = 0 then a else if j = 1 then b else c
theorem mk_tri (a b c : Int) : (#[.int .i64 a, .int .i64 b, .int .i64 c] : Array Value) = mk 3 (tri a b c) := rfl
theorem tri_pl (p : Nat × Nat) : mk 3 (tri ((p.1 / 4 : Nat) : Int) ((p.1 % 4 : Nat) : Int) ((p.2 : Nat) : Int)) = mk 3 (plF p) := rfl
theorem run_buildA (a b c : Int) (w : World) : (Instr.build 34 #[(0, .int .i64 a), (1, .int .i64 b), (2, .int .i64 c)]).run Try.prog w = .ok (.agg (mk 3 (tri a b c))) w := by kernel_rfl
theorem run_buildA0 (w : World) : (Instr.build 34 #[]).run Try.prog w = .ok (.agg (mk 3 fun _ => 0)) w := by kernel_rfl
theorem exec_buildA {o : Oper} {ev : Operand → Value} {w : World} (x y z : Operand) (ho : o.op = .build 34 #[(0, x), (1, y), (2, z)]) {a b c : Int}
    (hx : ev x = .int .i64 a) (hy : ev y = .int .i64 b) (hz : ev z = .int .i64 c) : (execOp ev o).run Try.prog w = .ok (.value (.agg (mk 3 (tri a b c)))) w := by
  have hr := run_buildA a b c w
  simp [execOp, ho, hx, hy, hz, hr, Result.andThen]
theorem wpl_buildA3 {w : World} {ops : Array Oper} {rest : List Oper} {o : Oper} {a : Act} {Q : Exit → Act → World → Prop} (x y z : Operand) (hg : o.guard = none) (ho : o.op = .build 34 #[(0, x), (1, y), (2, z)]) {i j k : Int}
    (hx : a.eval x = .int .i64 i) (hy : a.eval y = .int .i64 j) (hz : a.eval z = .int .i64 k) (h : wpList Try.prog ops Q rest (a.put o.dst (.agg (mk 3 (tri i j k)))) w) : wpList Try.prog ops Q (o :: rest) a w := by
  refine wpList_plain hg fun K' hK' => ?_
  unfold Oper.wp
  have hr := run_buildA i j k w
  simp [execOp, ho, hx, hy, hz, hr, Result.andThen]
  exact hK' _ _ h
/-- Two placements, one behind the other. -/
def two3 (s u : Nat → Int) : Nat → Int := fun j => if j < 3 then s j else u (j - 3)
theorem fill_two3_at (s u : Nat → Int) (a b c d e f : Value) : Instr.fill (fun i => some (i * 3, 3)) #[a, b, c, d, e, f] [(0, .agg (mk 3 s)), (1, .agg (mk 3 u))] = some (mk 6 (two3 s u)) := by kernel_rfl
theorem fill_two3 (s u : Nat → Int) (cs : Array Value) (hc : cs.size = 6) : Instr.fill (fun i => some (i * 3, 3)) cs [(0, .agg (mk 3 s)), (1, .agg (mk 3 u))] = some (mk 6 (two3 s u)) := by
  obtain ⟨l⟩ := cs
  have hl : l.length = 6 := by simpa using hc
  match l, hl with
  | [a, b, c, d, e, f], _ => exact fill_two3_at s u a b c d e f
theorem wp_buildA2 {w : World} {o : Oper} {a : Act} {K : Act → World → Prop} {Q : Exit → Act → World → Prop} (x y : Operand) (ho : o.op = .buildSlice 26 2 #[(0, x), (1, y)]) {s u : Nat → Int} (hx : a.eval x = .agg (mk 3 s)) (hy : a.eval y = .agg (mk 3 u))
    (h : K (a.put o.dst (.slice (some ⟨w.heap.size, 0, none⟩) 2 2)) (w.alloc (.cells (mk 6 (two3 s u)) 34))) : o.wp Try.prog a w K Q := by
  obtain ⟨i0, hi, hz0, hz1, hz2⟩ := info_parts infoA
  refine Go.wp_buildSlice 26 34 2 #[(0, x), (1, y)] ho (mk 6 (two3 s u)) i0 _ Try.underlying26 hi hz0 (by rw [hz1]; decide) (by rw [hz1]; decide) ?_ h
  rw [hz1]
  have e : (Array.map (fun (p : Nat × Operand) => (p.1, a.eval p.2)) #[(0, x), (1, y)]).toList = [(0, .agg (mk 3 s)), (1, .agg (mk 3 u))] := by simp [hx, hy]
  show Instr.fill _ _ (Array.map (fun (p : Nat × Operand) => (p.1, a.eval p.2)) #[(0, x), (1, y)]).toList = _
  rw [e]
  exact fill_two3 s u _ (by simp)
/-- The cells that a row owns, told by the empty ones of a board. -/
theorem empties_at {w : World} {base g cap n : Nat} {f : Nat → Int} (h : OwnsCells w base (.slice (some ⟨g, 0, none⟩) n cap) n (empL f 16)) (hn : n = empN f 16 := by rfl) : CAt w g (n * 2) (empF f) := by
  subst hn
  have hl := emp_len f 16
  unfold OwnsCells at h
  rw [ints_mk, hl] at h
  obtain ⟨g', c', e, _, hc⟩ := CRow.of_own h
  cases e
  exact hc
theorem owns_succ2 {w : World} {b e size n : Nat} {v : Value} {xs : List Value} (h : w.ownsRow b e size v (n + 2) xs) : ∃ g cap, v = .slice (some ⟨g, 0, none⟩) (n + 2) cap := ownsRow_succ (k := n + 1) h
theorem own_apart {w : World} {b b' : Nat} {e e' : TypeId} {s s' n n' : Nat} {v v' : Value} {xs xs' : List Value} (h : w.ownsRow b e s v n xs) (h' : w.ownsRow b' e' s' v' n' xs') (he : e ≠ e') : v.ownBlock = none ∨ v.ownBlock ≠ v'.ownBlock := by
  rcases h.2 with ⟨rfl, _⟩ | ⟨g, cap, cur, rfl, _, hg, _⟩
  · exact Or.inl rfl
  · refine Or.inr fun hv => ?_
    rcases h'.2 with ⟨rfl, _⟩ | ⟨g', cap', cur', rfl, _, hg', _⟩
    · simp [Value.ownBlock] at hv
    · simp only [Value.ownBlock, Option.some.injEq] at hv
      subst hv; rw [hg] at hg'; cases hg'; exact he rfl
/-- The slice value v owns a row of n lists. -/
def OwnsM (t : TypeId) (m : Nat) (w : World) (base : Nat) (v : Value) (n : Nat) (L : List (List Int)) : Prop := w.ownsRow base t m v n (L.flatten.map (Value.int .i64))
theorem OwnsM.out {t : TypeId} {m : Nat} {w : World} {base : Nat} {v : Value} {n : Nat} {L : List (List Int)} (h : OwnsM t m w base v n L) (hn : n = L.length) : OwnsL t m w base v L := by subst hn; exact h
theorem pl_all (L : List (Nat × Nat)) : AllL 3 (plL L) := fun x hx => by obtain ⟨p, _, rfl⟩ := List.mem_map.1 hx; exact cl_len _ _
theorem pl_flat {f : Nat → Int} {i j : Nat} (h : (emI f 16)[i]? = some j) (hr : empF f (i * 2) = ((j / 4 : Nat) : Int)) (hc : empF f (i * 2 + 1) = ((j % 4 : Nat) : Int)) :
    ((plL (plN f i)).flatten.map (Value.int .i64)) ++ (mk (2 * 3) fun q => two3 (tri (empF f (i * 2)) (empF f (i * 2 + 1)) 1) (tri (empF f (i * 2)) (empF f (i * 2 + 1)) 2) (0 + q)).toList = (plL (plN f (i + 1))).flatten.map (Value.int .i64) := by
  have e : plL (plN f (i + 1)) = plL (plN f i) ++ [cl 3 (plF (j, 1)), cl 3 (plF (j, 2))] := by rw [plN_step h]; simp [plL]
  rw [e, List.flatten_append, List.map_append, hr, hc]
  rfl
set_option maxHeartbeats 2000000 in
set_option maxRecDepth 20000 in
theorem eqA_yes (v u : Value) (n : Nat) (h : Nat → Int) (w : World) (hv : KRow 3 w v n h) (hu : KRow 3 w u n h) (hn : n ≤ 1048576) :
    Calls Try.prog 17 #[v, u] w fun e w' => e = .returned (.bool true) ∧ Below w.heap.size w w' := by
  obtain ⟨b1, c1, rfl, hc1, k1⟩ := hv
  obtain ⟨b2, c2, rfl, hc2, k2⟩ := hu
  go_enter Try.func17, Try.ntmps17
  go_wp2
  go_loopw [5] (fun i wr => ∃ k : Nat, k ≤ n ∧ i = .int .i64 k ∧ CAt wr b1 (n * 3) h ∧ CAt wr b2 (n * 3) h ∧ Hid (Below w.heap.size w wr)) (fun i _ => n - (intOf i).toNat)
  case atStart => exact ⟨0, Nat.zero_le _, rfl, k1, k2, Lib.hid (Below.refl _ _)⟩
  case round =>
    obtain ⟨k, hk, rfl, k1, k2, hb⟩ := hrel
    by_cases hlt : k < n
    · have hk0 : (0 : Int) ≤ (k : Int) := by omega
      have hl : (k : Int) < (n : Int) := by omega
      have a0 := fun (W : World) (q : CAt W b1 (n * 3) h) => q.2 (k * 3) (by omega)
      have a1 := fun (W : World) (q : CAt W b1 (n * 3) h) => q.2 (k * 3 + 1) (by omega)
      have a2 := fun (W : World) (q : CAt W b1 (n * 3) h) => q.2 (k * 3 + 2) (by omega)
      have d0 := fun (W : World) (q : CAt W b2 (n * 3) h) => q.2 (k * 3) (by omega)
      have d1 := fun (W : World) (q : CAt W b2 (n * 3) h) => q.2 (k * 3 + 1) (by omega)
      have d2 := fun (W : World) (q : CAt W b2 (n * 3) h) => q.2 (k * 3 + 2) (by omega)
      have e2 : (#[.int .i64 (h (k * 3)), .int .i64 (h (k * 3 + 1)), .int .i64 (h (k * 3 + 2))] : Array Value) = mk 3 (fun j => h (k * 3 + j)) := rfl
      go_wp2_with fail
      go_region_held3 (fun w' => CAt w' b1 (n * 3) h ∧ CAt w' b2 (n * 3) h ∧ Below w.heap.size w w') (first | exact ⟨k1, k2, hb.out.drew⟩ | assumption) (first | (go_at_call 28; refine (eqIntA3_same _ _).mono ?_; rintro e w6 ⟨rfl, hb6⟩; have J := heldC_step (by assumption) hb6; clear hb6) | fail)
      all_goals
        clear a0 a1 a2 d0 d1 d2 e2
        go_wp2_with fail
        go_roundw
        case rel => exact ⟨k + 1, by omega, by go_num, And.left (by assumption), And.left (And.right (by assumption)), And.right (And.right (by assumption))⟩
        case measure => simp [intOf]; omega
    · go_wp2
      go_ret
      exact ⟨rfl, hb.out⟩

set_option maxHeartbeats 1000000 in
theorem markA_row (g cap n base : Nat) (h : Nat → Int) (w : World) (ho : w.ownsRow base 34 3 (.slice (some ⟨g, 0, none⟩) n cap) n (mk (n * 3) h).toList) (hn : n ≤ 1048576) :
    Calls Try.prog 18 #[.slice (some ⟨g, 0, none⟩) n cap, .int .i64 1] w fun e w' => e = .returned (.int .i64 (1 + n * 3 : Nat)) ∧
      w'.ownsRow base 34 3 (.slice (some ⟨g, 0, none⟩) n cap) n (mk (n * 3) fun j => ((1 + j : Nat) : Int)).toList ∧ Below base w w' := by
  have hgb : base ≤ g := (ho.lt g rfl).1
  have HO : Hid (w.ownsRow base 34 3 (.slice (some ⟨g, 0, none⟩) n cap) n (mk (n * 3) (mixI h 0)).toList) := by
    show w.ownsRow _ _ _ _ _ _
    rw [mixI_zero]; exact ho
  clear ho
  go_enter Try.func18, Try.ntmps18
  go_wp2
  go_loopw [1, 5] (fun q i wr => ∃ k : Nat, k ≤ n ∧ i = .int .i64 k ∧ q = .int .i64 (1 + k * 3 : Nat) ∧ wr.ownsRow base 34 3 (.slice (some ⟨g, 0, none⟩) n cap) n (mk (n * 3) (mixI h (k * 3))).toList ∧ Below base w wr) (fun _ i _ => n - (intOf i).toNat)
  case atStart => exact ⟨0, Nat.zero_le _, rfl, rfl, HO.out, Below.refl _ _⟩
  case round =>
    obtain ⟨k, hk, rfl, rfl, hown, hbel⟩ := hrel
    have HB := Lib.hid hbel
    have HW := Lib.hid hown
    clear hbel hown
    by_cases hlt : k < n
    · have hk0 : (0 : Int) ≤ (k : Int) := by omega
      have hl : (k : Int) < (n : Int) := by omega
      go_wp2_with fail
      go_loopw [1, 6] (fun q i wx => ∃ j : Nat, j ≤ 3 ∧ i = .int .i64 j ∧ q = .int .i64 (1 + (k * 3 + j) : Nat) ∧ wx.ownsRow base 34 3 (.slice (some ⟨g, 0, none⟩) n cap) n (mk (n * 3) (mixI h (k * 3 + j))).toList ∧ Below base w wx) (fun _ i _ => 3 - (intOf i).toNat)
      case atStart => exact ⟨0, Nat.zero_le _, rfl, rfl, HW.out, HB.out⟩
      case round =>
        obtain ⟨j, hj, rfl, rfl, hown, hbel⟩ := hrel
        have HB := Lib.hid hbel
        clear hbel
        by_cases hj2 : j < 3
        · have hj0 : (0 : Int) ≤ (j : Int) := by omega
          have hjl : (j : Int) < 3 := by omega
          have hd : wr.cell? ⟨g, k * 3 + j, none⟩ = some (.int .i64 (mixI h (k * 3 + j) (k * 3 + j))) := by
            rw [hown.cellAt (k * 3 + j) (by omega), Array.getElem?_toList]; exact mk_get _ (by omega)
          have hf := hown.frozenAt (k * 3 + j)
          have hst := hown.stored (k * 3 + j) (.int .i64 ((1 + (k * 3 + j) : Nat) : Int))
          rw [← Array.toList_setIfInBounds, mk_set _ _ (by omega), mixI_step] at hst
          have HST := Lib.hid hst
          generalize mixI h (k * 3 + j) (k * 3 + j) = u0 at hd
          clear hst hown
          go_wp2
          go_roundw
          case rel => exact ⟨j + 1, by omega, by go_num, by go_num, HST.out.1, HB.out.setCell (p := ⟨g, k * 3 + j, none⟩) hgb _⟩
          case measure => simp [intOf]; omega
        · obtain rfl : j = 3 := by omega
          have HW := Lib.hid hown
          clear hown
          have HE : Hid (k * 3 + 3 = (k + 1) * 3) := by show _ = _; omega
          go_wp2
          go_roundw
          case rel => exact ⟨k + 1, by omega, by go_num, by go_num, by rw [← HE.out]; exact HW.out, HB.out⟩
          case measure => simp [intOf]; omega
    · obtain rfl : k = n := by omega
      go_wp2
      go_ret
      refine ⟨rfl, ?_, HB.out⟩
      have := HW.out
      rw [mixI_end] at this
      exact this

set_option maxHeartbeats 1000000 in
theorem heldA_row (v : Value) (n : Nat) (w : World) (hv : KRow 3 w v n fun j => ((1 + j : Nat) : Int)) (hn : n ≤ 1048576) :
    Calls Try.prog 19 #[v, .int .i64 1] w fun e w' => e = .returned (.int .i64 (1 + n * 3 : Nat)) ∧ w = w' := by
  obtain ⟨b, c, rfl, _, _, hc⟩ := hv
  have HC := Lib.hid hc
  clear hc
  go_enter Try.func19, Try.ntmps19
  go_wp2
  go_loop [1, 5] (fun q i => ∃ k : Nat, k ≤ n ∧ i = .int .i64 k ∧ q = .int .i64 (1 + k * 3 : Nat)) (fun _ i => n - (intOf i).toNat)
  case atStart => exact ⟨0, Nat.zero_le _, rfl, rfl⟩
  case round =>
    obtain ⟨k, hk, rfl, rfl⟩ := hrel
    by_cases hlt : k < n
    · have hk0 : (0 : Int) ≤ (k : Int) := by omega
      have hl : (k : Int) < (n : Int) := by omega
      go_wp2
      go_loop [1, 6] (fun q i => ∃ j : Nat, j ≤ 3 ∧ i = .int .i64 j ∧ q = .int .i64 (1 + (k * 3 + j) : Nat)) (fun _ i => 3 - (intOf i).toNat)
      case atStart => exact ⟨0, Nat.zero_le _, rfl, rfl⟩
      case round =>
        obtain ⟨j, hj, rfl, rfl⟩ := hrel
        by_cases hj2 : j < 3
        · have hj0 : (0 : Int) ≤ (j : Int) := by omega
          have hjl : (j : Int) < 3 := by omega
          have e1 := HC.out (k * 3 + j) (by omega)
          go_wp2
          go_round
          case rel => exact ⟨j + 1, by omega, by go_num, by go_num⟩
          case measure => simp [intOf]; omega
        · obtain rfl : j = 3 := by omega
          go_wp2
          go_round
          case rel => exact ⟨k + 1, by omega, by go_num, by go_num⟩
          case measure => simp [intOf]; omega
    · obtain rfl : k = n := by omega
      go_wp2
      go_ret
      exact ⟨rfl, rfl⟩
end Go.Proofs.Ytlboglcpbbnbcaa
