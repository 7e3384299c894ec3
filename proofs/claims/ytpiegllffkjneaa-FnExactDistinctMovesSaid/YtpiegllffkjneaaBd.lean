/-
  Small words for boards: an aggregate of n integers told by a function of their places, and a block that holds one. Nothing is proved here of the program.
-/
import Derived.Test.YtpiegllffkjneaaKit
import Derived.Test.YtpiegllffkjneaaBoardPlain
import Derived.Deep.MidRow
import Derived.Deep.OwnRows
import Derived.OwnWalk
import Derived.Laws.AppendOwn
import Derived.Laws.StructEq
namespace Go.Proofs.Ytpiegllffkjneaa
open Go.RowKit Plain

/-- n integers, told by a function of their places. -/
def mk (n : Nat) (f : Nat → Int) : Array Value := ((List.range n).map fun i => Value.int .i64 (f i)).toArray

theorem mk_size (n : Nat) (f : Nat → Int) : (mk n f).size = n := by simp [mk]
theorem mk_len (n : Nat) (f : Nat → Int) : (mk n f).toList.length = n := by simp [mk]
theorem mk_get {n i : Nat} (f : Nat → Int) (h : i < n) : (mk n f)[i]? = some (.int .i64 (f i)) := by simp [mk, h]
theorem mk_out {n i : Nat} (f : Nat → Int) (h : n ≤ i) : (mk n f)[i]? = none := by simp [mk, h]
theorem mk_ext {n : Nat} {f : Nat → Int} {cs : Array Value} (hs : cs.size = n) (h : ∀ i, i < n → cs[i]? = some (.int .i64 (f i))) : cs = mk n f := by
  apply Array.ext_getElem?
  intro i
  by_cases hi : i < n
  · rw [h i hi, mk_get f hi]
  · rw [mk_out f (by omega), Array.getElem?_eq_none (by omega)]
theorem mk_congr {n : Nat} {f g : Nat → Int} (h : ∀ i, i < n → f i = g i) : mk n f = mk n g :=
  mk_ext (mk_size n f) fun i hi => by rw [mk_get f hi, h i hi]
theorem mk_inj {n : Nat} {f g : Nat → Int} (h : mk n f = mk n g) : ∀ i, i < n → f i = g i := by
  intro i hi
  have := mk_get f hi
  rw [h, mk_get g hi] at this
  simpa using this.symm
theorem mk_set {n i : Nat} (f : Nat → Int) (v : Int) (h : i < n) : (mk n f).setIfInBounds i (.int .i64 v) = mk n (upd f i v) := by
  refine mk_ext (by simp [mk_size]) fun j hj => ?_
  rw [Array.getElem?_setIfInBounds, mk_size]
  by_cases e : i = j
  · subst e; simp [h, upd]
  · rw [if_neg e, mk_get f hj]; simp [upd, Ne.symm e]
theorem mk_extract {n : Nat} (f : Nat → Int) (o m : Nat) (h : o + m ≤ n) : (mk n f).extract o (o + m) = mk m (fun i => f (o + i)) := by
  refine mk_ext (by simp [mk_size]; omega) fun i hi => ?_
  rw [Array.getElem?_extract, mk_size, if_pos (by omega), mk_get f (by omega)]
/-- f, but the m numbers of g from place o on. -/
def patch (f : Nat → Int) (o m : Nat) (g : Nat → Int) : Nat → Int := fun j => if o ≤ j ∧ j < o + m then g (j - o) else f j
theorem mk_one {n : Nat} (f : Nat → Int) : (mk n f).all (·.oneCell') = true := by
  simp [mk, Value.oneCell']
theorem mk_mem {n : Nat} {f : Nat → Int} {v : Value} (h : v ∈ mk n f) : ∃ i, i < n ∧ v = .int .i64 (f i) := by
  simp [mk] at h
  obtain ⟨i, hi, rfl⟩ := h
  exact ⟨i, hi, rfl⟩

/-- f below k, and 0 from there on. -/
def upto (f : Nat → Int) (k : Nat) : Nat → Int := fun j => if j < k then f j else 0
theorem upto_zero (f : Nat → Int) (j : Nat) : upto f 0 j = 0 := by simp [upto]
theorem upto_all {f : Nat → Int} {k j : Nat} (h : j < k) : upto f k j = f j := by simp [upto, h]
theorem upto_step (f : Nat → Int) (k j : Nat) : upd (upto f k) k (f k) j = upto f (k + 1) j := by
  unfold upd upto
  by_cases e : j = k
  · subst e; simp
  · by_cases h : j < k
    · simp [e, h, show j < k + 1 by omega]
    · simp [e, h, show ¬ j < k + 1 by omega]
theorem upto_row (f : Nat → Int) (r m j : Nat) : patch (upto f (r * m)) (r * m) m (fun i => f (r * m + i)) j = upto f ((r + 1) * m) j := by
  unfold patch upto
  rw [Nat.add_mul, Nat.one_mul]
  by_cases h : r * m ≤ j ∧ j < r * m + m
  · rw [if_pos h, if_pos h.2]; show f (r * m + (j - r * m)) = f j; rw [show r * m + (j - r * m) = j by omega]
  · rw [if_neg h]
    by_cases k : j < r * m
    · rw [if_pos k, if_pos (by omega)]
    · rw [if_neg k, if_neg (by omega)]

theorem patch_congr (f : Nat → Int) (o m : Nat) {g h : Nat → Int} (e : ∀ i, i < m → g i = h i) (j : Nat) : patch f o m g j = patch f o m h j := by
  unfold patch
  by_cases k : o ≤ j ∧ j < o + m
  · rw [if_pos k, if_pos k, e _ (by omega)]
  · rw [if_neg k, if_neg k]
theorem seen_patch (f : Nat → Int) (d r j : Nat) : patch (seenF f d r) (r * 4) 4 (slid (lineF f d r) 4).row j = seenF f d (r + 1) j := by
  unfold patch seenF
  by_cases h : r * 4 ≤ j ∧ j < r * 4 + 4
  · rw [if_pos h, if_pos (by omega), show j / 4 = r by omega, show j % 4 = j - r * 4 by omega]
  · rw [if_neg h]
    by_cases k : j < r * 4
    · rw [if_pos k, if_pos (by omega)]
    · rw [if_neg k, if_neg (by omega)]
theorem done_patch (f : Nat → Int) (d : Nat) (g : Nat → Int) (hg : ∀ j, j < 16 → g j = slideB f d j) : ∀ j, j < 18 → patch (doneF f d 4) 0 16 g j = slideV f d j := by
  intro j hj
  unfold patch slideV doneF
  by_cases h : j < 16
  · rw [if_pos (by omega), if_pos h, Nat.sub_zero, hg j h]
  · rw [if_neg (by omega), if_neg h]
    by_cases k : j = 16
    · rw [if_pos k, if_pos k]
    · rw [if_neg k, if_pos (by omega), if_neg k]

/-- Block b holds the n integers of f; it may be written. -/
def Blk (w : World) (b n : Nat) (f : Nat → Int) (t : TypeId) : Prop := w.heap[b]? = some (.cells (mk n f) t (0, 0))

section
variable {w w' : World} {b n : Nat} {f : Nat → Int} {t : TypeId}
theorem Blk.new (w : World) (n : Nat) (f : Nat → Int) (t : TypeId) : Blk (w.alloc (.cells (mk n f) t)) w.heap.size n f t := heap_alloc_new w _
theorem Blk.lt (h : Blk w b n f t) : b < w.heap.size := (Array.getElem?_eq_some_iff.1 h).1
theorem Blk.alloc (h : Blk w b n f t) (o : Obj) : Blk (w.alloc o) b n f t := (heap_alloc_old w o h.lt).trans h
theorem Blk.drewN (h : Blk w b n f t) (k : Nat) : Blk (w.drewN k) b n f t := h
theorem Blk.drew (h : Blk w b n f t) : Blk w.drew b n f t := h
theorem Blk.cell (h : Blk w b n f t) {i : Nat} (hi : i < n) : w.cell? ⟨b, i, none⟩ = some (.int .i64 (f i)) := (cell_of_row w b i _ t _ h).trans (mk_get f hi)
theorem Blk.free (h : Blk w b n f t) (i : Nat) : w.frozen? ⟨b, i, none⟩ = false := frozen_of_row w b i _ t h
theorem Blk.set (h : Blk w b n f t) {i : Nat} (hi : i < n) (v : Int) : Blk (w.setCell ⟨b, i, none⟩ (.int .i64 v)) b n (upd f i v) t := by
  have := heap_setCell_same w b i _ t (.int .i64 v) h
  rwa [mk_set f v hi] at this
theorem Blk.setOther (h : Blk w b n f t) (p : Addr) (v : Value) (hp : b ≠ p.block) : Blk (w.setCell p v) b n f t := (heap_setCell_other w p b v hp).trans h
theorem Blk.row (h : Blk w b n f t) (m : Nat) (g : Nat → Int) : Blk (w.setRow b (mk m g)) b m g t := setRow_heap w b _ _ t _ h
theorem setRow_same (h : Blk w b n f t) : w.setRow b (mk n f) = w := by
  have := h.row n f
  obtain ⟨hp, os, tp, dr, ou⟩ := w
  simp only [World.setRow, World.mk.injEq, and_true]
  apply Array.ext_getElem?
  intro i
  rw [Array.getElem?_modify]
  by_cases e : b = i
  · subst e
    have h' : hp[b]? = some (.cells (mk n f) t (0, 0)) := h
    simp [h']
  · rw [if_neg e]
theorem Blk.rowOther (h : Blk w b n f t) (c : Nat) (cs : Array Value) (hc : b ≠ c) : Blk (w.setRow c cs) b n f t := (setRow_other w c b cs hc).trans h
theorem Blk.below {B : Nat} (h : Blk w b n f t) (hb : Below B w w') (hB : b < B) : Blk w' b n f t := (hb.block b hB).trans h
theorem Blk.congr {g : Nat → Int} (h : Blk w b n f t) (e : ∀ i, i < n → f i = g i) : Blk w b n g t := by
  unfold Blk at *; rw [h, mk_congr e]
theorem Blk.range (h : Blk w b n f t) (o m : Nat) (hm : o + m ≤ n) : w.rangeAt b o (mk m (fun i => f (o + i))).toList := by
  have := World.rangeAt_of_block h o m
  rwa [mk_extract f o m hm] at this
theorem Blk.there (h : Blk w b n f t) (o m : Nat) (hm : o + m ≤ n) : w.there b o m := fun j hj =>
  ⟨by rw [h.cell (by omega)]; rfl, h.free _⟩

theorem setCells_list (g : List Int) : ∀ (w : World) (o : Nat) (f : Nat → Int), Blk w b n f t → o + g.length ≤ n →
    w.setCells b o (g.map (Value.int .i64)) = w.setRow b (mk n (fun j => if o ≤ j ∧ j < o + g.length then g.getD (j - o) 0 else f j)) := by
  induction g with
  | nil =>
    intro w o f h _
    have : w.setRow b (mk n f) = w := setRow_same h
    simp only [List.map_nil, List.length_nil]
    rw [mk_congr (g := f) (fun i _ => if_neg (by omega)), this]
    rfl
  | cons v g ih =>
    intro w o f h hm
    simp only [List.length_cons] at hm
    have h1 := h.set (i := o) (by omega) v
    show (w.setCell ⟨b, o, none⟩ (.int .i64 v)).setCells b (o + 1) (g.map (Value.int .i64)) = _
    rw [ih _ (o + 1) _ h1 (by omega), setCell_eq_setRow w b o _ t (0, 0) _ h, setRow_setRow]
    congr 1
    refine mk_congr fun j _ => ?_
    by_cases e : j = o
    · subst e; rw [if_neg (by omega), if_pos (by simp)]; simp [upd]
    · by_cases k : o + 1 ≤ j ∧ j < o + 1 + g.length
      · rw [if_pos k, if_pos (by simp; omega), show j - o = j - (o + 1) + 1 by omega]; rfl
      · rw [if_neg k, if_neg (by simp; omega)]; simp [upd, e]
theorem setCells_row {o m : Nat} {g : Nat → Int} (h : Blk w b n f t) (hm : o + m ≤ n) : w.setCells b o (mk m g).toList = w.setRow b (mk n (patch f o m g)) := by
  have h1 : (mk m g).toList = ((List.range m).map g).map (Value.int .i64) := by simp [mk]
  rw [h1, setCells_list _ w o f h (by simpa using hm)]
  congr 1
  refine mk_congr fun j _ => ?_
  simp only [List.length_map, List.length_range, patch]
  by_cases k : o ≤ j ∧ j < o + m
  · rw [if_pos k, if_pos k]; simp [List.getD, show j - o < m by omega]
  · rw [if_neg k, if_neg k]

theorem below_setRow {B b : Nat} {a w : World} (h : Below B a w) (hb : B ≤ b) (cs : Array Value) : Below B a (w.setRow b cs) :=
  ⟨h.os, h.tape, h.output, by simpa using h.size, fun i hi => (setRow_other w b i cs (by omega)).trans (h.block i hi)⟩
theorem below_drewN {B : Nat} {a w : World} (h : Below B a w) (n : Nat) : Below B a (w.drewN n) := ⟨h.os, h.tape, h.output, h.size, h.block⟩
theorem below_setCells {B b : Nat} {a : World} (hb : B ≤ b) (vs : List Value) : ∀ (w : World) (o : Nat), Below B a w → Below B a (w.setCells b o vs) := by
  induction vs with
  | nil => intro w o h; exact h
  | cons v vs ih => intro w o h; exact ih _ _ (h.setCell hb v)
end

section
variable {P : Program} {ops : Array Oper} {rest : List Oper} {o : Oper} {a : Act} {w : World} {Q : Exit → Act → World → Prop}
/-- A whole block of integers is read. -/
theorem wpList_load_blk (hgd : o.guard = none) (ty : TypeId) (x : Operand) (ho : o.op = .load ty x) (b n : Nat) (f : Nat → Int) (t : TypeId) (d : TypeDesc)
    (hx : a.eval x = .pointer (some ⟨b, 0, none⟩)) (hg : Blk w b n f t)
    (hu : P.underlying ty = some d) (hd : d.isRow = true) (hi : (P.info? ty).map (·.size) = some n)
    (h : wpList P ops Q rest (a.put o.dst (.agg (mk n f))) w) : wpList P ops Q (o :: rest) a w :=
  wpList_load_row hgd ty x ho b hx t _ _ d hg hu (by cases d <;> first | rfl | exact hd) (by rw [mk_size]; exact hi) h
/-- A part of a block of integers is read. -/
theorem wpList_load_part (hgd : o.guard = none) (ty : TypeId) (x : Operand) (ho : o.op = .load ty x) (b n off m : Nat) (f : Nat → Int) (t : TypeId) (d : TypeDesc)
    (hx : a.eval x = .pointer (some ⟨b, off, none⟩)) (hg : Blk w b n f t) (hm : off + m ≤ n)
    (hu : P.underlying ty = some d) (hd : d.isRow = true) (hi : (P.info? ty).map (·.size) = some m)
    (h : wpList P ops Q rest (a.put o.dst (.agg (mk m (fun i => f (off + i))))) w) : wpList P ops Q (o :: rest) a w :=
  wpList_load_mid hgd ty x ho b off hx _ d (hg.range off m hm) hu hd (by rw [mk_len]; exact hi) (by rw [Array.toArray_toList]; exact h)
/-- A whole block of integers is written. -/
theorem wpList_store_blk (hgd : o.guard = none) (ty : TypeId) (x y : Operand) (ho : o.op = .store ty x y) (b n : Nat) (f g : Nat → Int) (t : TypeId)
    (hx : a.eval x = .pointer (some ⟨b, 0, none⟩)) (hy : a.eval y = .agg (mk n g)) (hg : Blk w b n f t)
    (hi : (P.info? ty).map (·.size) = some n)
    (h : wpList P ops Q rest (a.put o.dst undef) (w.setRow b (mk n g))) : wpList P ops Q (o :: rest) a w :=
  wpList_store_row hgd ty x y ho b _ hx hy t _ hg (by rw [mk_size]; exact hi) (by rw [mk_size, mk_size]) (mk_one g) h
/-- A part of a block of integers is written. -/
theorem wpList_store_part (hgd : o.guard = none) (ty : TypeId) (x y : Operand) (ho : o.op = .store ty x y) (b n off m : Nat) (f g : Nat → Int) (t : TypeId)
    (hx : a.eval x = .pointer (some ⟨b, off, none⟩)) (hy : a.eval y = .agg (mk m g)) (hg : Blk w b n f t) (hm : off + m ≤ n)
    (hi : (P.info? ty).map (·.size) = some m)
    (h : wpList P ops Q rest (a.put o.dst undef) (w.setRow b (mk n (patch f off m g)))) : wpList P ops Q (o :: rest) a w :=
  wpList_store_mid hgd ty x y ho b off _ hx hy (by rw [mk_size]; exact hg.there off m hm) (by rw [mk_size]; exact hi) (mk_one g) (by rw [setCells_row hg hm]; exact h)
end
end Go.Proofs.Ytpiegllffkjneaa
