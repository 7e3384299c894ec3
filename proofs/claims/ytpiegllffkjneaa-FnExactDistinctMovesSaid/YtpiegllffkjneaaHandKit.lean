/-
  Laws for loads of some numbers out of a row that lies anywhere in a block, plain and in regions walked by hand. Nothing is proved here of the program's functions.
-/
import Derived.Test.YtpiegllffkjneaaHeld
import Derived.Test.YtpiegllffkjneaaCellRows
import Derived.Test.YtpiegllffkjneaaListRows
import Derived.Great.BuildSlice
namespace Go.Proofs.Ytpiegllffkjneaa
open Go.RowKit Plain
theorem CAt.range {w : World} {g n : Nat} {h : Nat → Int} (r : CAt w g n h) (o m : Nat) (hm : o + m ≤ n) : w.rangeAt g o (mk m (fun i => h (o + i))).toList := fun j v hj => by
  rw [Array.getElem?_toList] at hj
  by_cases hjm : j < m
  · rw [mk_get _ hjm] at hj; cases hj
    exact r.2 (o + j) (by omega)
  · rw [mk_out _ (by omega)] at hj; cases hj
theorem CAt.cell {w : World} {g n : Nat} {h : Nat → Int} (r : CAt w g n h) {j : Nat} (hj : j < n) : w.cell? ⟨g, j, none⟩ = some (.int .i64 (h j)) := r.2 j hj
theorem CAt.drew {w : World} {g n : Nat} {h : Nat → Int} (r : CAt w g n h) : CAt w.drew g n h := r
theorem CAt.alloc {w : World} {g n : Nat} {h : Nat → Int} (r : CAt w g n h) (o : Obj) : CAt (w.alloc o) g n h := r.below ((Below.refl _ w).alloc (Nat.le_refl _) o)
theorem Blk.at {w : World} {b n : Nat} {f : Nat → Int} {t : TypeId} (k : Blk w b n f t) : CAt w b n f := ⟨k.lt, fun _ hj => k.cell hj⟩
theorem CAt.low {B : Nat} {w w' : World} {g n : Nat} {h : Nat → Int} (r : CAt w g n h) (hb : Below B w w') (hB : g < B) : CAt w' g n h :=
  ⟨Nat.lt_of_lt_of_le r.1 hb.size, fun j hj => (hb.cell (p := ⟨g, j, none⟩) hB).trans (r.2 j hj)⟩
section
variable {P : Program}
theorem exec_load_at {o : Oper} {ev : Operand → Value} {w : World} {b n off m : Nat} {f : Nat → Int} {d : TypeDesc} (ty : TypeId) (x : Operand) (ho : o.op = .load ty x)
    (hx : ev x = .pointer (some ⟨b, off, none⟩)) (hg : CAt w b n f) (hm : off + m ≤ n) (hu : P.underlying ty = some d) (hd : d.isRow = true) (hi : (P.info? ty).map (·.size) = some m) :
    (execOp ev o).run P w = .ok (.value (.agg (mk m (fun i => f (off + i))))) w := by
  have h := run_loadVar_mid (P := P) w b off ty _ d (hg.range off m hm) hu hd (by rw [mk_len]; exact hi)
  rw [Array.toArray_toList] at h
  unfold execOp
  simp only [ho, hx, Instr.loadAt, Instr.sureAddr, Sem.run_bind, Sem.run_pure, Result.andThen_ok, h]
theorem wpList_load_at {ops : Array Oper} {rest : List Oper} {o : Oper} {a : Act} {w : World} {Q : Exit → Act → World → Prop} (hgd : o.guard = none) (ty : TypeId) (x : Operand) (ho : o.op = .load ty x) (b n off m : Nat) (f : Nat → Int) (d : TypeDesc)
    (hx : a.eval x = .pointer (some ⟨b, off, none⟩)) (hg : CAt w b n f) (hm : off + m ≤ n)
    (hu : P.underlying ty = some d) (hd : d.isRow = true) (hi : (P.info? ty).map (·.size) = some m)
    (h : wpList P ops Q rest (a.put o.dst (.agg (mk m (fun i => f (off + i))))) w) : wpList P ops Q (o :: rest) a w :=
  wpList_load_mid hgd ty x ho b off hx _ d (hg.range off m hm) hu hd (by rw [mk_len]; exact hi) (by rw [Array.toArray_toList]; exact h)
end
theorem execAB {o : Oper} {ev : Operand → Value} {w : World} {b n off : Nat} {f : Nat → Int} {x : Operand} (hg : CAt w b n f) (hm : off + 16 ≤ n) (ho : o.op = .load 27 x) (hx : ev x = .pointer (some ⟨b, off, none⟩)) :
    (execOp ev o).run Try.prog w = .ok (.value (.agg (mk 16 (fun i => f (off + i))))) w := exec_load_at _ x ho hx hg hm Try.underlying27 rfl sizeB
theorem loadAB {ops : Array Oper} {rest : List Oper} {o : Oper} {a : Act} {w : World} {Q : Exit → Act → World → Prop} {x : Operand} {b n off : Nat} {f : Nat → Int} (hg : CAt w b n f) (hm : off + 16 ≤ n)
    (hgd : o.guard = none) (ho : o.op = .load 27 x) (hx : a.eval x = .pointer (some ⟨b, off, none⟩))
    (h : wpList Try.prog ops Q rest (a.put o.dst (.agg (mk 16 (fun i => f (off + i))))) w) : wpList Try.prog ops Q (o :: rest) a w :=
  wpList_load_at hgd _ x ho b n off 16 f _ hx hg hm Try.underlying27 rfl sizeB h
theorem execAR {o : Oper} {ev : Operand → Value} {w : World} {b n off : Nat} {f : Nat → Int} {x : Operand} (hg : CAt w b n f) (hm : off + 4 ≤ n) (ho : o.op = .load 24 x) (hx : ev x = .pointer (some ⟨b, off, none⟩)) :
    (execOp ev o).run Try.prog w = .ok (.value (.agg (mk 4 (fun i => f (off + i))))) w := exec_load_at _ x ho hx hg hm Try.underlying24 rfl sizeR
theorem loadAR {ops : Array Oper} {rest : List Oper} {o : Oper} {a : Act} {w : World} {Q : Exit → Act → World → Prop} {x : Operand} {b n off : Nat} {f : Nat → Int} (hg : CAt w b n f) (hm : off + 4 ≤ n)
    (hgd : o.guard = none) (ho : o.op = .load 24 x) (hx : a.eval x = .pointer (some ⟨b, off, none⟩))
    (h : wpList Try.prog ops Q rest (a.put o.dst (.agg (mk 4 (fun i => f (off + i))))) w) : wpList Try.prog ops Q (o :: rest) a w :=
  wpList_load_at hgd _ x ho b n off 4 f _ hx hg hm Try.underlying24 rfl sizeR h
/-- An append to a row that the call owns: the run, and what it leaves. -/
theorem app_step {P : Program} {w : World} (base : Nat) (t ty e : TypeId) (i : TypeInfo) (z : Value) (size bytes : Nat) (ht : P.underlying t = some (.slice e)) (hi : P.info? e = some i) (hz : i.zero = some z)
    (hsize : i.size = size) (hby : i.bytes = bytes) (hzs : z.cells.size = size) (hsz : 0 < size)
    {v : Value} {n : Nat} {xs : List Value} (hown : w.ownsRow base e size v n xs)
    (b off m c : Nat) (f : Nat → Int) (N : Nat) (hc : CAt w b N f) (hm : off + m * size ≤ N)
    (h63 : n + m ≤ maxLen) (hbytes : (n + m) * bytes ≤ 140737488355328) (hbase : base ≤ w.heap.size) :
    ∃ v' w', (Builtin.append_ #[t, t] ty #[v, .slice (some ⟨b, off, none⟩) m c]).run P w = .ok v' w' ∧ w'.ownsRow base e size v' (n + m) (xs ++ (mk (m * size) fun j => f (off + j)).toList) ∧ Below base w w' ∧ w.grownBy w' v.ownBlock := by
  obtain ⟨v', w', h1, h2, h3, _, _⟩ := Go.run_append_own_at w base t ty e i z size bytes ht hi hz hsize hby hzs hsz v n xs hown ⟨b, off, none⟩ m c (mk (m * size) fun j => f (off + j)).toList
    (by rw [mk_len]) (fun j u hj => by
      have := hc.range off (m * size) hm j u hj
      unfold Addr.add
      by_cases h0 : j = 0
      · subst h0; simpa using this
      · simpa [h0] using this) (fun u hu => by
      obtain ⟨i, _, rfl⟩ := mk_mem (by simpa using hu); rfl) h63 hbytes hbase
  exact ⟨v', w', h1, h2, (Below.refl base w).grown h3 hbase fun k hk => (hown.lt k hk).1, h3⟩
/-- The same at the operation, for regions walked by hand. -/
theorem wp_app {P : Program} {w : World} {o : Oper} {a : Act} {K : Act → World → Prop} {Q : Exit → Act → World → Prop} (s x : Operand) (t : TypeId)
    (ho : o.op = .call { callee := .builtin .append, args := #[s, x], argTypes := #[t, t] })
    (base : Nat) (e : TypeId) (i : TypeInfo) (z : Value) (size bytes : Nat) (ht : P.underlying t = some (.slice e)) (hi : P.info? e = some i) (hz : i.zero = some z)
    (hsize : i.size = size) (hby : i.bytes = bytes) (hzs : z.cells.size = size) (hsz : 0 < size)
    {v : Value} {n : Nat} {xs : List Value} (hs : a.eval s = v) (hown : w.ownsRow base e size v n xs)
    (b off m c : Nat) (f : Nat → Int) (N : Nat) (hx : a.eval x = .slice (some ⟨b, off, none⟩) m c) (hc : CAt w b N f) (hm : off + m * size ≤ N)
    (h63 : n + m ≤ maxLen) (hbytes : (n + m) * bytes ≤ 140737488355328) (hbase : base ≤ w.heap.size)
    (h : ∀ v' w', w'.ownsRow base e size v' (n + m) (xs ++ (mk (m * size) fun j => f (off + j)).toList) → Below base w w' → w.grownBy w' v.ownBlock → K (a.put o.dst v') w') : o.wp P a w K Q :=
  Go.wp_append_own w s x t ho base e i z size bytes ht hi hz hsize hby hzs hsz v n xs hs hown ⟨b, off, none⟩ m c (mk (m * size) fun j => f (off + j)).toList hx (by rw [mk_len]) (fun j u hj => by
      have := hc.range off (m * size) hm j u hj
      unfold Addr.add
      by_cases h0 : j = 0
      · subst h0; simpa using this
      · simpa [h0] using this) (fun u hu => by
      obtain ⟨i, _, rfl⟩ := mk_mem (by simpa using hu); rfl) h63 hbytes hbase
    fun v' w' h2 h3 _ => h v' w' h2 ((Below.refl base w).grown h3 hbase fun k hk => (hown.lt k hk).1) h3
/-- '[]T{}' at the operation. -/
theorem wp_build0 {P : Program} {w : World} {o : Oper} {a : Act} {K : Act → World → Prop} {Q : Exit → Act → World → Prop} (t e : TypeId) (ho : o.op = .buildSlice t 0 #[]) {ie : TypeInfo} {z : Value}
    (hu : P.underlying t = some (.slice e)) (hie : P.info? e = some ie) (_ : ie.zero = some z)
    (h : K (a.put o.dst (.slice (some ⟨w.heap.size, 0, none⟩) 0 0)) (w.alloc (.cells #[] e))) : o.wp P a w K Q := by
  unfold Oper.wp execOp
  simp only [ho, Sem.run_bind]
  have hr : (Instr.buildSlice t 0 #[]).run P w = .ok (.slice (some ⟨w.heap.size, 0, none⟩) 0 0) (w.alloc (.cells #[] e)) := by
    simp [Instr.buildSlice, run_underlying hu, sizeOf, typeInfo, hie, Instr.fill, newRow]
    rw [show (Array.map (fun _ => (default : Value)) (Array.range 0)) = #[] from Array.eq_empty_of_size_eq_zero (by simp)]
  simp only [Array.map_empty, hr, Result.andThen_ok]
  exact h
theorem foldl_set : ∀ (l : List Value) (o : Nat) (cs : Array Value), o + l.length ≤ cs.size →
    ((l.zipIdx o).foldl (fun (cs : Array Value) (x : Value × Nat) => cs.setIfInBounds (0 + x.2) x.1) cs).size = cs.size ∧
    ∀ i, ((l.zipIdx o).foldl (fun (cs : Array Value) (x : Value × Nat) => cs.setIfInBounds (0 + x.2) x.1) cs)[i]? = if o ≤ i ∧ i < o + l.length then l[i - o]? else cs[i]?
  | [], o, cs, h => by simp; intro i h1 h2; omega
  | v :: l, o, cs, h => by
    simp only [List.length_cons] at h
    obtain ⟨h1, h2⟩ := foldl_set l (o + 1) (cs.setIfInBounds (0 + o) v) (by simp; omega)
    rw [List.zipIdx_cons, List.foldl_cons]
    refine ⟨by rw [h1]; simp, fun i => ?_⟩
    rw [h2 i, List.length_cons]
    by_cases hi : o + 1 ≤ i ∧ i < o + 1 + l.length
    · rw [if_pos hi, if_pos (by omega), show i - o = (i - (o + 1)) + 1 by omega, List.getElem?_cons_succ]
    · rw [if_neg hi]
      by_cases ho : i = o
      · subst ho
        rw [if_pos (by omega), Nat.sub_self, Nat.zero_add]
        rw [Array.getElem?_setIfInBounds, if_pos rfl, if_pos (by omega)]
        simp
      · rw [if_neg (by omega), Nat.zero_add, Array.getElem?_setIfInBounds, if_neg (fun e => ho e.symm)]
theorem fill_one {n : Nat} (f : Nat → Int) (cs : Array Value) (hc : cs.size = n) : Instr.fill (fun i => some (i * n, n)) cs [(0, .agg (mk n f))] = some (mk n f) := by
  have hm : (mk n f).size = n := mk_size _ _
  have hl : (mk n f).toList.length = n := mk_len _ _
  unfold Instr.fill
  simp only [Nat.zero_mul]
  have hv : (Value.agg (mk n f)).cells = mk n f := rfl
  rw [hv, if_neg (by simp [hm, hc])]
  unfold Instr.fill
  congr 1
  rw [← Array.foldl_toList, Array.toList_zipIdx]
  obtain ⟨h1, h2⟩ := foldl_set (mk n f).toList 0 cs (by omega)
  apply Array.ext_getElem?
  intro i
  rw [h2 i]
  by_cases hi : i < n
  · rw [if_pos (by omega)]; simp
  · rw [if_neg (by omega), mk_out f (by omega)]; simp; omega
theorem infoB : (Try.prog.info? 27).map (fun i => (i.zero, i.size, i.bytes)) = some (some (.agg (mk 16 fun _ => 0)), 16, 128) := by kernel_rfl
theorem infoR : (Try.prog.info? 24).map (fun i => (i.zero, i.size, i.bytes)) = some (some (.agg (mk 4 fun _ => 0)), 4, 32) := by kernel_rfl
theorem wp_buildB {w : World} {o : Oper} {a : Act} {K : Act → World → Prop} {Q : Exit → Act → World → Prop} (x : Operand) (ho : o.op = .buildSlice 36 1 #[(0, x)]) {f : Nat → Int} (hx : a.eval x = .agg (mk 16 f))
    (h : K (a.put o.dst (.slice (some ⟨w.heap.size, 0, none⟩) 1 1)) (w.alloc (.cells (mk 16 f) 27))) : o.wp Try.prog a w K Q := by
  obtain ⟨i0, hi, hz0, hz1, hz2⟩ := info_parts infoB
  refine Go.wp_buildSlice 36 27 1 #[(0, x)] ho (mk 16 f) i0 _ Try.underlying36 hi hz0 (by rw [hz1]; decide) (by rw [hz1]; decide) ?_ h
  rw [hz1]
  have e : (Array.map (fun (p : Nat × Operand) => (p.1, a.eval p.2)) #[(0, x)]).toList = [(0, .agg (mk 16 f))] := by simp [hx]
  show Instr.fill _ _ (Array.map (fun (p : Nat × Operand) => (p.1, a.eval p.2)) #[(0, x)]).toList = _
  rw [e]
  exact fill_one f _ (by simp)
theorem wpl_buildB {w : World} {ops : Array Oper} {rest : List Oper} {o : Oper} {a : Act} {Q : Exit → Act → World → Prop} (x : Operand) (hg : o.guard = none) (ho : o.op = .buildSlice 36 1 #[(0, x)]) {f : Nat → Int} (hx : a.eval x = .agg (mk 16 f))
    (h : wpList Try.prog ops Q rest (a.put o.dst (.slice (some ⟨w.heap.size, 0, none⟩) 1 1)) (w.alloc (.cells (mk 16 f) 27))) : wpList Try.prog ops Q (o :: rest) a w :=
  wpList_plain hg fun _ hK => wp_buildB x ho hx (hK _ _ h)
theorem wp_buildR {w : World} {o : Oper} {a : Act} {K : Act → World → Prop} {Q : Exit → Act → World → Prop} (x : Operand) (ho : o.op = .buildSlice 74 1 #[(0, x)]) {f : Nat → Int} (hx : a.eval x = .agg (mk 4 f))
    (h : K (a.put o.dst (.slice (some ⟨w.heap.size, 0, none⟩) 1 1)) (w.alloc (.cells (mk 4 f) 24))) : o.wp Try.prog a w K Q := by
  obtain ⟨i0, hi, hz0, hz1, hz2⟩ := info_parts infoR
  refine Go.wp_buildSlice 74 24 1 #[(0, x)] ho (mk 4 f) i0 _ Try.underlying74 hi hz0 (by rw [hz1]; decide) (by rw [hz1]; decide) ?_ h
  rw [hz1]
  have e : (Array.map (fun (p : Nat × Operand) => (p.1, a.eval p.2)) #[(0, x)]).toList = [(0, .agg (mk 4 f))] := by simp [hx]
  show Instr.fill _ _ (Array.map (fun (p : Nat × Operand) => (p.1, a.eval p.2)) #[(0, x)]).toList = _
  rw [e]
  exact fill_one f _ (by simp)
theorem wpl_buildR {w : World} {ops : Array Oper} {rest : List Oper} {o : Oper} {a : Act} {Q : Exit → Act → World → Prop} (x : Operand) (hg : o.guard = none) (ho : o.op = .buildSlice 74 1 #[(0, x)]) {f : Nat → Int} (hx : a.eval x = .agg (mk 4 f))
    (h : wpList Try.prog ops Q rest (a.put o.dst (.slice (some ⟨w.heap.size, 0, none⟩) 1 1)) (w.alloc (.cells (mk 4 f) 24))) : wpList Try.prog ops Q (o :: rest) a w :=
  wpList_plain hg fun _ hK => wp_buildR x ho hx (hK _ _ h)
/-- What is written behind and ahead of a list that is put among others. -/
theorem add_flat {m : Nat} {L : List (List Int)} (ha : AllL m L) (f : Nat → Int) {k o : Nat} (hk : k ≤ L.length) (ho : k = L.length ∨ o = k * m) :
    (L.take k ++ cl m f :: L.drop k).flatten.map (Value.int .i64) = [] ++ (mk (k * m) fun j => flatF L (0 + j)).toList ++ (mk (1 * m) fun j => f (0 + j)).toList ++ (mk ((L.length - k) * m) fun j => flatF L (o + j)).toList := by
  have h1 : AllL m (L.take k) := fun x hx => ha x (List.mem_of_mem_take hx)
  have h2 : AllL m (L.drop k) := fun x hx => ha x (List.mem_of_mem_drop hx)
  have hl1 : (L.take k).length = k := by rw [List.length_take]; omega
  have hl2 : (L.drop k).length = L.length - k := by rw [List.length_drop]
  have hf1 := flat_len h1
  have hf2 := flat_len h2
  have hsplit : L.flatten = (L.take k).flatten ++ (L.drop k).flatten := by rw [← List.flatten_append, List.take_append_drop]
  rw [hl1] at hf1
  rw [hl2] at hf2
  have e1 : mk (k * m) (flatF (L.take k)) = mk (k * m) fun j => flatF L (0 + j) := mk_congr fun j hj => by
    unfold flatF
    rw [hsplit, Nat.zero_add, List.getD_eq_getElem?_getD, List.getD_eq_getElem?_getD, List.getElem?_append_left (by omega)]
  have e2 : mk ((L.length - k) * m) (flatF (L.drop k)) = mk ((L.length - k) * m) fun j => flatF L (o + j) := mk_congr fun j hj => by
    rcases ho with rfl | rfl
    · simp at hj
    · unfold flatF
      rw [hsplit, List.getD_eq_getElem?_getD, List.getD_eq_getElem?_getD, List.getElem?_append_right (by omega)]
      congr 2; omega
  have e3 : mk (1 * m) (fun j => f (0 + j)) = mk m f := by rw [Nat.one_mul]; exact mk_congr fun j _ => by rw [Nat.zero_add]
  rw [List.flatten_append, List.flatten_cons, List.map_append, List.map_append, flat_mk h1, flat_mk h2, mk_cl, hl1, hl2, e1, e2, e3]
  simp
end Go.Proofs.Ytpiegllffkjneaa
