/-
  Several texts in one:
  Small words for the walks of this seat: a row of bytes and a row of strings that came in. Nothing is proved here of the program.
  Small words for boards: an aggregate of n integers told by a function of their places, and a block that holds one. Nothing is proved here of the program.
  The laws of whole aggregates of integers, at the types of this program: read, written, indexed, handed back. Nothing is proved here of the program's functions.
  The contracts of the small tests of chapter 2 (tile, side, line, cell) and of the worth of a tile, in the program and in the reference.
  Two boards are compared: what the comparison of arrays of arrays of integers, and of structs that hold one, answers.
  The contracts of the program's views of a board (as it is, transposed, mirrored, turned, turned back). No condition.
  The contract of the program's table of views: four pairs of functions, one pair a direction.
  The contracts of spec.l2Board and impl.IsBoard: whether all numbers of a board are those of cells. No condition.
  The laws of whole aggregates of integers that are read under a guard that is met. Nothing is proved here of the program's functions.
  The law of a whole row of four integers that is read under a guard that is met. Nothing is proved here of the program's functions.
  The contracts of the laws' own conversions and comparisons of boards, cells and rows. No condition.
  A struct or an array of integers that came in by value: its cells are integers, told by a function of their places. Nothing is proved here of the program.
  Laws for regions that draw their order, walked by hand: a whole block of integers is read in every world that meets a condition. Nothing is proved here of the program's functions.
  What a call leaves that turns nothing that was there, and draws no less than none: for the comparing functions that are handed to a sort. Nothing is proved here of the program.
  The contract of the reference's list of empty cells, for every board.
-/
import Derived.Test.YtfjpdopljmilpaaRows
import Derived.Test.YtfjpdopljmilpaaPlainA
import Derived.WalkKit
import Derived.ProofKit
import Derived.OpenShut
import Derived.ShutString
import Derived.SliceStrings
import Derived.Below
import Derived.Lib.Hide
import Derived.WalkLawsBesides
import Derived.WalkSpells
import Derived.Outline
import Derived.Deep.DeepHandedRow
import Derived.LaidLaws
import Derived.Deep.MidRow
import Derived.Deep.OwnRows
import Derived.OwnWalk
import Derived.Laws.AppendOwn
import Derived.Laws.StructEq
import Derived.Deep.LoopGhost
import Derived.Deep.WholeRow
import Derived.Deep.QuietTactic
import Derived.BigQuiet
import Derived.WalkMore
import Derived.IntWalk
import Derived.ChangeKeysEq
import Derived.Deep.RegionWith
import Derived.Deep.RegionHeld3
import Derived.Sort.Grow
import Derived.Maps.AppendAt
import Derived.RangeFuncBox
namespace Go.Proofs.Ytfjpdopljmilpaa
open Go.ChangeShapes Go.WideShapes Go.ChangeAt Go.RowKit

/-- A slice of integers that came in: nil, or a row of cells. -/
def IsRow (k : IntKind) (w : World) (a : Option Addr) (len cap : Nat) (zs : List Int) : Prop :=
  (a = none ∧ len = 0 ∧ cap = 0 ∧ zs = []) ∨
  ∃ x, a = some x ∧ len ≤ cap ∧ cap ≤ maxLen ∧ zs.length = cap ∧ (∀ i, i < zs.length → w.cell? (x.add i) = some (.int k (zs.getD i 0))) ∧ ∀ n ∈ zs, (Lit.int k n).wf = true
/-- A slice of strings that came in: nil, or a row of cells. -/
def IsStrs (w : World) (a : Option Addr) (len cap : Nat) (ss : List ByteArray) : Prop :=
  (a = none ∧ len = 0 ∧ cap = 0 ∧ ss = []) ∨
  ∃ x, a = some x ∧ len ≤ cap ∧ cap ≤ maxLen ∧ ss.length = cap ∧ (∀ i, i < ss.length → w.cell? (x.add i) = some (.string (ss.getD i ByteArray.empty))) ∧ ∀ s ∈ ss, s.size ≤ maxLen

theorem ret_int {k : IntKind} {a b : Int} (h : a = b) : Ending.returned (.int k a) = .returned (.int k b) := by rw [h]
theorem toList_ne {a b : ByteArray} (h : a ≠ b) : (a.toList == b.toList) = false := by
  rw [beq_eq_false_iff_ne, ByteArray.toList_eq, ByteArray.toList_eq]
  exact fun e => h (ByteArray.ext (Array.toList_inj.mp e))
theorem own : ownKnob Try.prog.godebug = none := by kernel_rfl
end Go.Proofs.Ytfjpdopljmilpaa
namespace Go.Proofs.Ytfjpdopljmilpaa
open Go.RowKit Plain

/-- n integers, told by a function of their places. -/
def mk (n : Nat) (f : Nat → Int) : Array Value := ((List.range n).map fun i => Value.int .i64 (f i)).toArray

theorem mk_size (n : Nat) (f : Nat → Int) : (mk n f).size = n := by simp [mk]
theorem mk_len (n : Nat) (f : Nat → Int) : (mk n f).toList.length = n := by simp [mk]
theorem mk_get {n i : Nat} (f : Nat → Int) (h : i < n) : (mk n f)[i]? = some (.int .i64 (f i)) := by simp [mk, h]
theorem mk_out {n i : Nat} (f : Nat → Int) (h : n ≤ i) : (mk n f)[i]? = none := by simp [mk, h]
theorem mk_ext {n : Nat} {f : Nat → Int} {cs : Array Value} (hs : cs.size = n) (h : ∀ i, i < n → cs[i]? = some (.int .i64 (f i))) : cs = mk n f := by
  apply Array.ext_getElem?
  intro i
  by_cases hi : i < n
  · rw [h i hi, mk_get f hi]
  · rw [mk_out f (by omega), Array.getElem?_eq_none (by omega)]
theorem mk_congr {n : Nat} {f g : Nat → Int} (h : ∀ i, i < n → f i = g i) : mk n f = mk n g :=
  mk_ext (mk_size n f) fun i hi => by rw [mk_get f hi, h i hi]
theorem mk_inj {n : Nat} {f g : Nat → Int} (h : mk n f = mk n g) : ∀ i, i < n → f i = g i := by
  intro i hi
  have := mk_get f hi
  rw [h, mk_get g hi] at this
  simpa using this.symm
theorem mk_set {n i : Nat} (f : Nat → Int) (v : Int) (h : i < n) : (mk n f).setIfInBounds i (.int .i64 v) = mk n (upd f i v) := by
  refine mk_ext (by simp [mk_size]) fun j hj => ?_
  rw [Array.getElem?_setIfInBounds, mk_size]
  by_cases e : i = j
  · subst e; simp [h, upd]
  · rw [if_neg e, mk_get f hj]; simp [upd, Ne.symm e]
theorem mk_extract {n : Nat} (f : Nat → Int) (o m : Nat) (h : o + m ≤ n) : (mk n f).extract o (o + m) = mk m (fun i => f (o + i)) := by
  refine mk_ext (by simp [mk_size]; omega) fun i hi => ?_
  rw [Array.getElem?_extract, mk_size, if_pos (by omega), mk_get f (by omega)]
/-- f, but the m numbers of g from place o on. -/
def patch (f : Nat → Int) (o m : Nat) (g : Nat → Int) : Nat → Int := fun j => if o ≤ j ∧ j < o + m then g (j - o) else f j
theorem mk_one {n : Nat} (f : Nat → Int) : (mk n f).all (·.oneCell') = true := by
  simp [mk, Value.oneCell']
theorem mk_mem {n : Nat} {f : Nat → Int} {v : Value} (h : v ∈ mk n f) : ∃ i, i < n ∧ v = .int .i64 (f i) := by
  simp [mk] at h
  obtain ⟨i, hi, rfl⟩ := h
  exact ⟨i, hi, rfl⟩

/-- f below k, and 0 from there on. -/
def upto (f : Nat → Int) (k : Nat) : Nat → Int := fun j => if j < k then f j else 0
theorem upto_zero (f : Nat → Int) (j : Nat) : upto f 0 j = 0 := by simp [upto]
theorem upto_all {f : Nat → Int} {k j : Nat} (h : j < k) : upto f k j = f j := by simp [upto, h]
theorem upto_step (f : Nat → Int) (k j : Nat) : upd (upto f k) k (f k) j = upto f (k + 1) j := by
  unfold upd upto
  by_cases e : j = k
  · subst e; simp
  · by_cases h : j < k
    · simp [e, h, show j < k + 1 by omega]
    · simp [e, h, show ¬ j < k + 1 by omega]
theorem upto_row (f : Nat → Int) (r m j : Nat) : patch (upto f (r * m)) (r * m) m (fun i => f (r * m + i)) j = upto f ((r + 1) * m) j := by
  unfold patch upto
  rw [Nat.add_mul, Nat.one_mul]
  by_cases h : r * m ≤ j ∧ j < r * m + m
  · rw [if_pos h, if_pos h.2]; show f (r * m + (j - r * m)) = f j; rw [show r * m + (j - r * m) = j by omega]
  · rw [if_neg h]
    by_cases k : j < r * m
    · rw [if_pos k, if_pos (by omega)]
    · rw [if_neg k, if_neg (by omega)]

theorem patch_congr (f : Nat → Int) (o m : Nat) {g h : Nat → Int} (e : ∀ i, i < m → g i = h i) (j : Nat) : patch f o m g j = patch f o m h j := by
  unfold patch
  by_cases k : o ≤ j ∧ j < o + m
  · rw [if_pos k, if_pos k, e _ (by omega)]
  · rw [if_neg k, if_neg k]
theorem seen_patch (f : Nat → Int) (d r j : Nat) : patch (seenF f d r) (r * 4) 4 (slid (lineF f d r) 4).row j = seenF f d (r + 1) j := by
  unfold patch seenF
  by_cases h : r * 4 ≤ j ∧ j < r * 4 + 4
  · rw [if_pos h, if_pos (by omega), show j / 4 = r by omega, show j % 4 = j - r * 4 by omega]
  · rw [if_neg h]
    by_cases k : j < r * 4
    · rw [if_pos k, if_pos (by omega)]
    · rw [if_neg k, if_neg (by omega)]
theorem done_patch (f : Nat → Int) (d : Nat) (g : Nat → Int) (hg : ∀ j, j < 16 → g j = slideB f d j) : ∀ j, j < 18 → patch (doneF f d 4) 0 16 g j = slideV f d j := by
  intro j hj
  unfold patch slideV doneF
  by_cases h : j < 16
  · rw [if_pos (by omega), if_pos h, Nat.sub_zero, hg j h]
  · rw [if_neg (by omega), if_neg h]
    by_cases k : j = 16
    · rw [if_pos k, if_pos k]
    · rw [if_neg k, if_pos (by omega), if_neg k]

/-- Block b holds the n integers of f; it may be written. -/
def Blk (w : World) (b n : Nat) (f : Nat → Int) (t : TypeId) : Prop := w.heap[b]? = some (.cells (mk n f) t (0, 0))

section
variable {w w' : World} {b n : Nat} {f : Nat → Int} {t : TypeId}
theorem Blk.new (w : World) (n : Nat) (f : Nat → Int) (t : TypeId) : Blk (w.alloc (.cells (mk n f) t)) w.heap.size n f t := heap_alloc_new w _
theorem Blk.lt (h : Blk w b n f t) : b < w.heap.size := (Array.getElem?_eq_some_iff.1 h).1
theorem Blk.alloc (h : Blk w b n f t) (o : Obj) : Blk (w.alloc o) b n f t := (heap_alloc_old w o h.lt).trans h
theorem Blk.drewN (h : Blk w b n f t) (k : Nat) : Blk (w.drewN k) b n f t := h
theorem Blk.drew (h : Blk w b n f t) : Blk w.drew b n f t := h
theorem Blk.cell (h : Blk w b n f t) {i : Nat} (hi : i < n) : w.cell? ⟨b, i, none⟩ = some (.int .i64 (f i)) := (cell_of_row w b i _ t _ h).trans (mk_get f hi)
theorem Blk.free (h : Blk w b n f t) (i : Nat) : w.frozen? ⟨b, i, none⟩ = false := frozen_of_row w b i _ t h
theorem Blk.set (h : Blk w b n f t) {i : Nat} (hi : i < n) (v : Int) : Blk (w.setCell ⟨b, i, none⟩ (.int .i64 v)) b n (upd f i v) t := by
  have := heap_setCell_same w b i _ t (.int .i64 v) h
  rwa [mk_set f v hi] at this
theorem Blk.setOther (h : Blk w b n f t) (p : Addr) (v : Value) (hp : b ≠ p.block) : Blk (w.setCell p v) b n f t := (heap_setCell_other w p b v hp).trans h
theorem Blk.row (h : Blk w b n f t) (m : Nat) (g : Nat → Int) : Blk (w.setRow b (mk m g)) b m g t := setRow_heap w b _ _ t _ h
theorem setRow_same (h : Blk w b n f t) : w.setRow b (mk n f) = w := by
  have := h.row n f
  obtain ⟨hp, os, tp, dr, ou⟩ := w
  simp only [World.setRow, World.mk.injEq, and_true]
  apply Array.ext_getElem?
  intro i
  rw [Array.getElem?_modify]
  by_cases e : b = i
  · subst e
    have h' : hp[b]? = some (.cells (mk n f) t (0, 0)) := h
    simp [h']
  · rw [if_neg e]
theorem Blk.rowOther (h : Blk w b n f t) (c : Nat) (cs : Array Value) (hc : b ≠ c) : Blk (w.setRow c cs) b n f t := (setRow_other w c b cs hc).trans h
theorem Blk.below {B : Nat} (h : Blk w b n f t) (hb : Below B w w') (hB : b < B) : Blk w' b n f t := (hb.block b hB).trans h
theorem Blk.congr {g : Nat → Int} (h : Blk w b n f t) (e : ∀ i, i < n → f i = g i) : Blk w b n g t := by
  unfold Blk at *; rw [h, mk_congr e]
theorem Blk.range (h : Blk w b n f t) (o m : Nat) (hm : o + m ≤ n) : w.rangeAt b o (mk m (fun i => f (o + i))).toList := by
  have := World.rangeAt_of_block h o m
  rwa [mk_extract f o m hm] at this
theorem Blk.there (h : Blk w b n f t) (o m : Nat) (hm : o + m ≤ n) : w.there b o m := fun j hj =>
  ⟨by rw [h.cell (by omega)]; rfl, h.free _⟩

theorem setCells_list (g : List Int) : ∀ (w : World) (o : Nat) (f : Nat → Int), Blk w b n f t → o + g.length ≤ n →
    w.setCells b o (g.map (Value.int .i64)) = w.setRow b (mk n (fun j => if o ≤ j ∧ j < o + g.length then g.getD (j - o) 0 else f j)) := by
  induction g with
  | nil =>
    intro w o f h _
    have : w.setRow b (mk n f) = w := setRow_same h
    simp only [List.map_nil, List.length_nil]
    rw [mk_congr (g := f) (fun i _ => if_neg (by omega)), this]
    rfl
  | cons v g ih =>
    intro w o f h hm
    simp only [List.length_cons] at hm
    have h1 := h.set (i := o) (by omega) v
    show (w.setCell ⟨b, o, none⟩ (.int .i64 v)).setCells b (o + 1) (g.map (Value.int .i64)) = _
    rw [ih _ (o + 1) _ h1 (by omega), setCell_eq_setRow w b o _ t (0, 0) _ h, setRow_setRow]
    congr 1
    refine mk_congr fun j _ => ?_
    by_cases e : j = o
    · subst e; rw [if_neg (by omega), if_pos (by simp)]; simp [upd]
    · by_cases k : o + 1 ≤ j ∧ j < o + 1 + g.length
      · rw [if_pos k, if_pos (by simp; omega), show j - o = j - (o + 1) + 1 by omega]; rfl
      · rw [if_neg k, if_neg (by simp; omega)]; simp [upd, e]
theorem setCells_row {o m : Nat} {g : Nat → Int} (h : Blk w b n f t) (hm : o + m ≤ n) : w.setCells b o (mk m g).toList = w.setRow b (mk n (patch f o m g)) := by
  have h1 : (mk m g).toList = ((List.range m).map g).map (Value.int .i64) := by simp [mk]
  rw [h1, setCells_list _ w o f h (by simpa using hm)]
  congr 1
  refine mk_congr fun j _ => ?_
  simp only [List.length_map, List.length_range, patch]
  by_cases k : o ≤ j ∧ j < o + m
  · rw [if_pos k, if_pos k]; simp [List.getD, show j - o < m by omega]
  · rw [if_neg k, if_neg k]

theorem below_setRow {B b : Nat} {a w : World} (h : Below B a w) (hb : B ≤ b) (cs : Array Value) : Below B a (w.setRow b cs) :=
  ⟨h.os, h.tape, h.output, by simpa using h.size, fun i hi => (setRow_other w b i cs (by omega)).trans (h.block i hi)⟩
theorem below_drewN {B : Nat} {a w : World} (h : Below B a w) (n : Nat) : Below B a (w.drewN n) := ⟨h.os, h.tape, h.output, h.size, h.block⟩
theorem below_setCells {B b : Nat} {a : World} (hb : B ≤ b) (vs : List Value) : ∀ (w : World) (o : Nat), Below B a w → Below B a (w.setCells b o vs) := by
  induction vs with
  | nil => intro w o h; exact h
  | cons v vs ih => intro w o h; exact ih _ _ (h.setCell hb v)
end

section
variable {P : Program} {ops : Array Oper} {rest : List Oper} {o : Oper} {a : Act} {w : World} {Q : Exit → Act → World → Prop}
/-- A whole block of integers is read. -/
theorem wpList_load_blk (hgd : o.guard = none) (ty : TypeId) (x : Operand) (ho : o.op = .load ty x) (b n : Nat) (f : Nat → Int) (t : TypeId) (d : TypeDesc)
    (hx : a.eval x = .pointer (some ⟨b, 0, none⟩)) (hg : Blk w b n f t)
    (hu : P.underlying ty = some d) (hd : d.isRow = true) (hi : (P.info? ty).map (·.size) = some n)
    (h : wpList P ops Q rest (a.put o.dst (.agg (mk n f))) w) : wpList P ops Q (o :: rest) a w :=
  wpList_load_row hgd ty x ho b hx t _ _ d hg hu (by cases d <;> first | rfl | exact hd) (by rw [mk_size]; exact hi) h
/-- A part of a block of integers is read. -/
theorem wpList_load_part (hgd : o.guard = none) (ty : TypeId) (x : Operand) (ho : o.op = .load ty x) (b n off m : Nat) (f : Nat → Int) (t : TypeId) (d : TypeDesc)
    (hx : a.eval x = .pointer (some ⟨b, off, none⟩)) (hg : Blk w b n f t) (hm : off + m ≤ n)
    (hu : P.underlying ty = some d) (hd : d.isRow = true) (hi : (P.info? ty).map (·.size) = some m)
    (h : wpList P ops Q rest (a.put o.dst (.agg (mk m (fun i => f (off + i))))) w) : wpList P ops Q (o :: rest) a w :=
  wpList_load_mid hgd ty x ho b off hx _ d (hg.range off m hm) hu hd (by rw [mk_len]; exact hi) (by rw [Array.toArray_toList]; exact h)
/-- A whole block of integers is written. -/
theorem wpList_store_blk (hgd : o.guard = none) (ty : TypeId) (x y : Operand) (ho : o.op = .store ty x y) (b n : Nat) (f g : Nat → Int) (t : TypeId)
    (hx : a.eval x = .pointer (some ⟨b, 0, none⟩)) (hy : a.eval y = .agg (mk n g)) (hg : Blk w b n f t)
    (hi : (P.info? ty).map (·.size) = some n)
    (h : wpList P ops Q rest (a.put o.dst undef) (w.setRow b (mk n g))) : wpList P ops Q (o :: rest) a w :=
  wpList_store_row hgd ty x y ho b _ hx hy t _ hg (by rw [mk_size]; exact hi) (by rw [mk_size, mk_size]) (mk_one g) h
/-- A part of a block of integers is written. -/
theorem wpList_store_part (hgd : o.guard = none) (ty : TypeId) (x y : Operand) (ho : o.op = .store ty x y) (b n off m : Nat) (f g : Nat → Int) (t : TypeId)
    (hx : a.eval x = .pointer (some ⟨b, off, none⟩)) (hy : a.eval y = .agg (mk m g)) (hg : Blk w b n f t) (hm : off + m ≤ n)
    (hi : (P.info? ty).map (·.size) = some m)
    (h : wpList P ops Q rest (a.put o.dst undef) (w.setRow b (mk n (patch f off m g)))) : wpList P ops Q (o :: rest) a w :=
  wpList_store_mid hgd ty x y ho b off _ hx hy (by rw [mk_size]; exact hg.there off m hm) (by rw [mk_size]; exact hi) (mk_one g) (by rw [setCells_row hg hm]; exact h)
end
end Go.Proofs.Ytfjpdopljmilpaa
namespace Go.Proofs.Ytfjpdopljmilpaa
open Go.RowKit Plain

theorem zero18 : (#[.int .i64 0, .int .i64 0, .int .i64 0, .int .i64 0, .int .i64 0, .int .i64 0, .int .i64 0, .int .i64 0, .int .i64 0, .int .i64 0, .int .i64 0, .int .i64 0, .int .i64 0, .int .i64 0, .int .i64 0, .int .i64 0, .int .i64 0, .int .i64 0] : Array Value) = mk 18 (fun _ => 0) := rfl
theorem zero16 : (#[.int .i64 0, .int .i64 0, .int .i64 0, .int .i64 0, .int .i64 0, .int .i64 0, .int .i64 0, .int .i64 0, .int .i64 0, .int .i64 0, .int .i64 0, .int .i64 0, .int .i64 0, .int .i64 0, .int .i64 0, .int .i64 0] : Array Value) = mk 16 (fun _ => 0) := rfl
theorem zero8 : (#[.int .i64 0, .int .i64 0, .int .i64 0, .int .i64 0, .int .i64 0, .int .i64 0, .int .i64 0, .int .i64 0] : Array Value) = mk 8 (fun _ => 0) := rfl
theorem zero4 : (#[.int .i64 0, .int .i64 0, .int .i64 0, .int .i64 0] : Array Value) = mk 4 (fun _ => 0) := rfl
theorem zero2 : (#[.int .i64 0, .int .i64 0] : Array Value) = mk 2 (fun _ => 0) := rfl
/-- Two numbers. -/
def two (a b : Int) : Nat → Int := fun i => if i = 0 then a else b
theorem mk_two (a b : Int) : (#[.int .i64 a, .int .i64 b] : Array Value) = mk 2 (two a b) := rfl

section
variable {P : Program}
theorem run_load_blk {w : World} {b n : Nat} {f : Nat → Int} {t ty : TypeId} {d : TypeDesc} (hg : Blk w b n f t) (hu : P.underlying ty = some d) (hd : d.isRow = true) (hi : (P.info? ty).map (·.size) = some n) :
    (loadVar ty ⟨b, 0, none⟩).run P w = .ok (.agg (mk n f)) w :=
  run_loadVar_row w b t ty _ _ d hg hu (by cases d <;> first | rfl | exact hd) (by rw [mk_size]; exact hi)
theorem ret_c {fn : Func} {R : Ending → World → Prop} {a : Act} {w : World} {p : Tmp} {ty t : TypeId} {b n : Nat} {f : Nat → Int} {d : TypeDesc}
    (hu : P.underlying ty = some d) (hd : d.isRow = true) (hi : (P.info? ty).map (·.size) = some n)
    (h : fn.results = #[.cell p ty]) (hp : a.tmps.getD p undef = .pointer (some ⟨b, 0, none⟩)) (hdf : a.defers = []) (hg : Blk w b n f t)
    (hR : R (.returned (.agg (mk n f))) w) : bodyPost P fn R .ret a w := by
  have hp' : a.tmps[p]?.getD undef = .pointer (some ⟨b, 0, none⟩) := by simpa using hp
  exact bodyPost_ret (v := .agg (mk n f)) (by simp [results, h, hp', asAddr, run_load_blk hg hu hd hi]) hdf hR
theorem ret_ct {fn : Func} {R : Ending → World → Prop} {a : Act} {w : World} {p q : Tmp} {ty t : TypeId} {b n : Nat} {f : Nat → Int} {d : TypeDesc}
    (hu : P.underlying ty = some d) (hd : d.isRow = true) (hi : (P.info? ty).map (·.size) = some n)
    (h : fn.results = #[.cell p ty, .tmp q]) (hp : a.tmps.getD p undef = .pointer (some ⟨b, 0, none⟩)) (hdf : a.defers = []) (hg : Blk w b n f t)
    (hR : R (.returned (.tuple #[.agg (mk n f), a.tmps.getD q undef])) w) : bodyPost P fn R .ret a w := by
  have hp' : a.tmps[p]?.getD undef = .pointer (some ⟨b, 0, none⟩) := by simpa using hp
  exact bodyPost_ret (v := .tuple #[.agg (mk n f), a.tmps.getD q undef]) (by simp [results, h, hp', asAddr, run_load_blk hg hu hd hi]) hdf hR
theorem ret_ctt {fn : Func} {R : Ending → World → Prop} {a : Act} {w : World} {p q r : Tmp} {ty t : TypeId} {b n : Nat} {f : Nat → Int} {d : TypeDesc}
    (hu : P.underlying ty = some d) (hd : d.isRow = true) (hi : (P.info? ty).map (·.size) = some n)
    (h : fn.results = #[.cell p ty, .tmp q, .tmp r]) (hp : a.tmps.getD p undef = .pointer (some ⟨b, 0, none⟩)) (hdf : a.defers = []) (hg : Blk w b n f t)
    (hR : R (.returned (.tuple #[.agg (mk n f), a.tmps.getD q undef, a.tmps.getD r undef])) w) : bodyPost P fn R .ret a w := by
  have hp' : a.tmps[p]?.getD undef = .pointer (some ⟨b, 0, none⟩) := by simpa using hp
  exact bodyPost_ret (v := .tuple #[.agg (mk n f), a.tmps.getD q undef, a.tmps.getD r undef]) (by simp [results, h, hp', asAddr, run_load_blk hg hu hd hi]) hdf hR
theorem ret_tct {fn : Func} {R : Ending → World → Prop} {a : Act} {w : World} {p q r : Tmp} {ty t : TypeId} {b n : Nat} {f : Nat → Int} {d : TypeDesc}
    (hu : P.underlying ty = some d) (hd : d.isRow = true) (hi : (P.info? ty).map (·.size) = some n)
    (h : fn.results = #[.tmp q, .cell p ty, .tmp r]) (hp : a.tmps.getD p undef = .pointer (some ⟨b, 0, none⟩)) (hdf : a.defers = []) (hg : Blk w b n f t)
    (hR : R (.returned (.tuple #[a.tmps.getD q undef, .agg (mk n f), a.tmps.getD r undef])) w) : bodyPost P fn R .ret a w := by
  have hp' : a.tmps[p]?.getD undef = .pointer (some ⟨b, 0, none⟩) := by simpa using hp
  exact bodyPost_ret (v := .tuple #[a.tmps.getD q undef, .agg (mk n f), a.tmps.getD r undef]) (by simp [results, h, hp', asAddr, run_load_blk hg hu hd hi]) hdf hR
theorem ret_cc {fn : Func} {R : Ending → World → Prop} {a : Act} {w : World} {p q : Tmp} {ty t ty2 t2 : TypeId} {b n b2 n2 : Nat} {f f2 : Nat → Int} {d d2 : TypeDesc}
    (hu : P.underlying ty = some d) (hd : d.isRow = true) (hi : (P.info? ty).map (·.size) = some n) (hu2 : P.underlying ty2 = some d2) (hd2 : d2.isRow = true) (hi2 : (P.info? ty2).map (·.size) = some n2)
    (h : fn.results = #[.cell p ty, .cell q ty2]) (hp : a.tmps.getD p undef = .pointer (some ⟨b, 0, none⟩)) (hq : a.tmps.getD q undef = .pointer (some ⟨b2, 0, none⟩)) (hdf : a.defers = [])
    (hg : Blk w b n f t) (hg2 : Blk w b2 n2 f2 t2)
    (hR : R (.returned (.tuple #[.agg (mk n f), .agg (mk n2 f2)])) w) : bodyPost P fn R .ret a w := by
  have hp' : a.tmps[p]?.getD undef = .pointer (some ⟨b, 0, none⟩) := by simpa using hp
  have hq' : a.tmps[q]?.getD undef = .pointer (some ⟨b2, 0, none⟩) := by simpa using hq
  exact bodyPost_ret (v := .tuple #[.agg (mk n f), .agg (mk n2 f2)]) (by simp [results, h, hp', hq', asAddr, run_load_blk hg hu hd hi, run_load_blk hg2 hu2 hd2 hi2]) hdf hR
theorem ret_cct {fn : Func} {R : Ending → World → Prop} {a : Act} {w : World} {p q r : Tmp} {ty t ty2 t2 : TypeId} {b n b2 n2 : Nat} {f f2 : Nat → Int} {d d2 : TypeDesc}
    (hu : P.underlying ty = some d) (hd : d.isRow = true) (hi : (P.info? ty).map (·.size) = some n) (hu2 : P.underlying ty2 = some d2) (hd2 : d2.isRow = true) (hi2 : (P.info? ty2).map (·.size) = some n2)
    (h : fn.results = #[.cell p ty, .cell q ty2, .tmp r]) (hp : a.tmps.getD p undef = .pointer (some ⟨b, 0, none⟩)) (hq : a.tmps.getD q undef = .pointer (some ⟨b2, 0, none⟩)) (hdf : a.defers = [])
    (hg : Blk w b n f t) (hg2 : Blk w b2 n2 f2 t2)
    (hR : R (.returned (.tuple #[.agg (mk n f), .agg (mk n2 f2), a.tmps.getD r undef])) w) : bodyPost P fn R .ret a w := by
  have hp' : a.tmps[p]?.getD undef = .pointer (some ⟨b, 0, none⟩) := by simpa using hp
  have hq' : a.tmps[q]?.getD undef = .pointer (some ⟨b2, 0, none⟩) := by simpa using hq
  exact bodyPost_ret (v := .tuple #[.agg (mk n f), .agg (mk n2 f2), a.tmps.getD r undef]) (by simp [results, h, hp', hq', asAddr, run_load_blk hg hu hd hi, run_load_blk hg2 hu2 hd2 hi2]) hdf hR

/-- A row out of an array of rows. -/
theorem run_index_row {t e : TypeId} {L m n k : Nat} {d : TypeDesc} (hu : P.underlying t = some (.array L e)) (he : P.underlying e = some d) (hd : d.isRow = true)
    (hi : (P.info? e).map (·.size) = some m) (f : Nat → Int) (hk : k < L) (hn : k * m + m ≤ n) (w : World) :
    (Instr.index t (.agg (mk n f)) (.int .i64 (k : Int))).run P w = .ok (.agg (mk m (fun c => f (k * m + c)))) w := by
  have hagg : (isAgg e).run P w = .ok true w := by
    unfold isAgg
    rw [Sem.run_bind, run_underlying he w]
    cases d <;> simp_all
  cases hq : P.info? e with
  | none => simp [hq] at hi
  | some i =>
    have hs : i.size = m := by simpa [hq] using hi
    simp [Instr.index, asIntOf, run_underlying hu, part, hagg, sizeOf, typeInfo, hq, hs, mk_extract f (k * m) m hn]
    intro h; omega
/-- A number out of an array of numbers. -/
theorem run_index_int {t e : TypeId} {L k : Nat} (hu : P.underlying t = some (.array L e)) (he : P.underlying e = some (.int .i64))
    (hi : (P.info? e).map (·.size) = some 1) (f : Nat → Int) (hk : k < L) (w : World) :
    (Instr.index t (.agg (mk L f)) (.int .i64 (k : Int))).run P w = .ok (.int .i64 (f k)) w := by
  have hagg : (isAgg e).run P w = .ok false w := by
    unfold isAgg
    rw [Sem.run_bind, run_underlying he w]
    simp
  cases hq : P.info? e with
  | none => simp [hq] at hi
  | some i =>
    have hs : i.size = 1 := by simpa [hq] using hi
    simp [Instr.index, asIntOf, run_underlying hu, part, hagg, sizeOf, typeInfo, hq, hs, mk_get f hk]
    intro h; omega
/-- A whole aggregate into a block of its size. -/
theorem run_store_blk {w : World} {b n : Nat} {f : Nat → Int} (g : Nat → Int) {t : TypeId} (hg : Blk w b n f t) :
    (storeCells ⟨b, 0, none⟩ (mk n g).toList).run P w = .ok () (w.setRow b (mk n g)) := by
  have := run_storeCells_from (P := P) b t (mk n g).toList 0 _ _ hg (by simp [mk]) (fun v hv => (Array.all_eq_true_iff_forall_mem.1 (mk_one g)) v (by simpa using hv))
  rw [this]
  simp
/-- A whole aggregate into the block that was made last. -/
theorem store_new (W : World) (b n : Nat) (f g : Nat → Int) (t : TypeId) (hb : b = W.heap.size) :
    (storeCells ⟨b, 0, none⟩ (mk n g).toList).run P (W.alloc (.cells (mk n f) t)) = .ok () (W.alloc (.cells (mk n g) t)) := by
  subst hb
  have := run_storeCells_from (P := P) W.heap.size t (mk n g).toList 0 _ _ (Blk.new W n f t) (by simp [mk]) (fun v hv => (Array.all_eq_true_iff_forall_mem.1 (mk_one g)) v (by simpa using hv))
  rw [this]
  simp [World.setRow_alloc_new]
end

theorem sizeB : (Try.prog.info? 26).map (·.size) = some 16 := by kernel_rfl
theorem loadB {ops : Array Oper} {rest : List Oper} {o : Oper} {a : Act} {w : World} {Q : Exit → Act → World → Prop} {x : Operand} {b : Nat} {f : Nat → Int} {t : TypeId}
    (hg : Blk w b 16 f t) (hgd : o.guard = none) (ho : o.op = .load 26 x) (hx : a.eval x = .pointer (some ⟨b, 0, none⟩))
    (h : wpList Try.prog ops Q rest (a.put o.dst (.agg (mk 16 f))) w) : wpList Try.prog ops Q (o :: rest) a w :=
  wpList_load_blk hgd _ x ho b 16 f t _ hx hg Try.underlying26 rfl sizeB h
theorem storeB {ops : Array Oper} {rest : List Oper} {o : Oper} {a : Act} {w : World} {Q : Exit → Act → World → Prop} {x y : Operand} {b : Nat} {f g : Nat → Int} {t : TypeId}
    (hg : Blk w b 16 f t) (hgd : o.guard = none) (ho : o.op = .store 26 x y) (hx : a.eval x = .pointer (some ⟨b, 0, none⟩)) (hy : a.eval y = .agg (mk 16 g))
    (h : wpList Try.prog ops Q rest (a.put o.dst undef) (w.setRow b (mk 16 g))) : wpList Try.prog ops Q (o :: rest) a w :=
  wpList_store_blk hgd _ x y ho b 16 f g t hx hy hg sizeB h
theorem loadPB {ops : Array Oper} {rest : List Oper} {o : Oper} {a : Act} {w : World} {Q : Exit → Act → World → Prop} {x : Operand} {b n off : Nat} {f : Nat → Int} {t : TypeId}
    (hg : Blk w b n f t) (hm : off + 16 ≤ n) (hgd : o.guard = none) (ho : o.op = .load 26 x) (hx : a.eval x = .pointer (some ⟨b, off, none⟩))
    (h : wpList Try.prog ops Q rest (a.put o.dst (.agg (mk 16 (fun i => f (off + i))))) w) : wpList Try.prog ops Q (o :: rest) a w :=
  wpList_load_part hgd _ x ho b n off 16 f t _ hx hg hm Try.underlying26 rfl sizeB h
theorem storePB {ops : Array Oper} {rest : List Oper} {o : Oper} {a : Act} {w : World} {Q : Exit → Act → World → Prop} {x y : Operand} {b n off : Nat} {f g : Nat → Int} {t : TypeId}
    (hg : Blk w b n f t) (hm : off + 16 ≤ n) (hgd : o.guard = none) (ho : o.op = .store 26 x y) (hx : a.eval x = .pointer (some ⟨b, off, none⟩)) (hy : a.eval y = .agg (mk 16 g))
    (h : wpList Try.prog ops Q rest (a.put o.dst undef) (w.setRow b (mk n (patch f off 16 g)))) : wpList Try.prog ops Q (o :: rest) a w :=
  wpList_store_part hgd _ x y ho b n off 16 f g t hx hy hg hm sizeB h
theorem retcB {fn : Func} {R : Ending → World → Prop} {a : Act} {w : World} {p : Tmp} {t : TypeId} {b : Nat} {f : Nat → Int}
    (hg : Blk w b 16 f t) (h : fn.results = #[.cell p 26]) (hp : a.tmps.getD p undef = .pointer (some ⟨b, 0, none⟩)) (hdf : a.defers = [])
    (hR : R (.returned (.agg (mk 16 f))) w) : bodyPost Try.prog fn R .ret a w := ret_c Try.underlying26 rfl sizeB h hp hdf hg hR
theorem retctB {fn : Func} {R : Ending → World → Prop} {a : Act} {w : World} {p q : Tmp} {t : TypeId} {b : Nat} {f : Nat → Int}
    (hg : Blk w b 16 f t) (h : fn.results = #[.cell p 26, .tmp q]) (hp : a.tmps.getD p undef = .pointer (some ⟨b, 0, none⟩)) (hdf : a.defers = [])
    (hR : R (.returned (.tuple #[.agg (mk 16 f), a.tmps.getD q undef])) w) : bodyPost Try.prog fn R .ret a w := ret_ct Try.underlying26 rfl sizeB h hp hdf hg hR
theorem retcttB {fn : Func} {R : Ending → World → Prop} {a : Act} {w : World} {p q r : Tmp} {t : TypeId} {b : Nat} {f : Nat → Int}
    (hg : Blk w b 16 f t) (h : fn.results = #[.cell p 26, .tmp q, .tmp r]) (hp : a.tmps.getD p undef = .pointer (some ⟨b, 0, none⟩)) (hdf : a.defers = [])
    (hR : R (.returned (.tuple #[.agg (mk 16 f), a.tmps.getD q undef, a.tmps.getD r undef])) w) : bodyPost Try.prog fn R .ret a w := ret_ctt Try.underlying26 rfl sizeB h hp hdf hg hR
theorem sizeG : (Try.prog.info? 23).map (·.size) = some 16 := by kernel_rfl
theorem loadG {ops : Array Oper} {rest : List Oper} {o : Oper} {a : Act} {w : World} {Q : Exit → Act → World → Prop} {x : Operand} {b : Nat} {f : Nat → Int} {t : TypeId}
    (hg : Blk w b 16 f t) (hgd : o.guard = none) (ho : o.op = .load 23 x) (hx : a.eval x = .pointer (some ⟨b, 0, none⟩))
    (h : wpList Try.prog ops Q rest (a.put o.dst (.agg (mk 16 f))) w) : wpList Try.prog ops Q (o :: rest) a w :=
  wpList_load_blk hgd _ x ho b 16 f t _ hx hg Try.underlying23 rfl sizeG h
theorem storeG {ops : Array Oper} {rest : List Oper} {o : Oper} {a : Act} {w : World} {Q : Exit → Act → World → Prop} {x y : Operand} {b : Nat} {f g : Nat → Int} {t : TypeId}
    (hg : Blk w b 16 f t) (hgd : o.guard = none) (ho : o.op = .store 23 x y) (hx : a.eval x = .pointer (some ⟨b, 0, none⟩)) (hy : a.eval y = .agg (mk 16 g))
    (h : wpList Try.prog ops Q rest (a.put o.dst undef) (w.setRow b (mk 16 g))) : wpList Try.prog ops Q (o :: rest) a w :=
  wpList_store_blk hgd _ x y ho b 16 f g t hx hy hg sizeG h
theorem loadPG {ops : Array Oper} {rest : List Oper} {o : Oper} {a : Act} {w : World} {Q : Exit → Act → World → Prop} {x : Operand} {b n off : Nat} {f : Nat → Int} {t : TypeId}
    (hg : Blk w b n f t) (hm : off + 16 ≤ n) (hgd : o.guard = none) (ho : o.op = .load 23 x) (hx : a.eval x = .pointer (some ⟨b, off, none⟩))
    (h : wpList Try.prog ops Q rest (a.put o.dst (.agg (mk 16 (fun i => f (off + i))))) w) : wpList Try.prog ops Q (o :: rest) a w :=
  wpList_load_part hgd _ x ho b n off 16 f t _ hx hg hm Try.underlying23 rfl sizeG h
theorem storePG {ops : Array Oper} {rest : List Oper} {o : Oper} {a : Act} {w : World} {Q : Exit → Act → World → Prop} {x y : Operand} {b n off : Nat} {f g : Nat → Int} {t : TypeId}
    (hg : Blk w b n f t) (hm : off + 16 ≤ n) (hgd : o.guard = none) (ho : o.op = .store 23 x y) (hx : a.eval x = .pointer (some ⟨b, off, none⟩)) (hy : a.eval y = .agg (mk 16 g))
    (h : wpList Try.prog ops Q rest (a.put o.dst undef) (w.setRow b (mk n (patch f off 16 g)))) : wpList Try.prog ops Q (o :: rest) a w :=
  wpList_store_part hgd _ x y ho b n off 16 f g t hx hy hg hm sizeG h
theorem retcG {fn : Func} {R : Ending → World → Prop} {a : Act} {w : World} {p : Tmp} {t : TypeId} {b : Nat} {f : Nat → Int}
    (hg : Blk w b 16 f t) (h : fn.results = #[.cell p 23]) (hp : a.tmps.getD p undef = .pointer (some ⟨b, 0, none⟩)) (hdf : a.defers = [])
    (hR : R (.returned (.agg (mk 16 f))) w) : bodyPost Try.prog fn R .ret a w := ret_c Try.underlying23 rfl sizeG h hp hdf hg hR
theorem retctG {fn : Func} {R : Ending → World → Prop} {a : Act} {w : World} {p q : Tmp} {t : TypeId} {b : Nat} {f : Nat → Int}
    (hg : Blk w b 16 f t) (h : fn.results = #[.cell p 23, .tmp q]) (hp : a.tmps.getD p undef = .pointer (some ⟨b, 0, none⟩)) (hdf : a.defers = [])
    (hR : R (.returned (.tuple #[.agg (mk 16 f), a.tmps.getD q undef])) w) : bodyPost Try.prog fn R .ret a w := ret_ct Try.underlying23 rfl sizeG h hp hdf hg hR
theorem retcttG {fn : Func} {R : Ending → World → Prop} {a : Act} {w : World} {p q r : Tmp} {t : TypeId} {b : Nat} {f : Nat → Int}
    (hg : Blk w b 16 f t) (h : fn.results = #[.cell p 23, .tmp q, .tmp r]) (hp : a.tmps.getD p undef = .pointer (some ⟨b, 0, none⟩)) (hdf : a.defers = [])
    (hR : R (.returned (.tuple #[.agg (mk 16 f), a.tmps.getD q undef, a.tmps.getD r undef])) w) : bodyPost Try.prog fn R .ret a w := ret_ctt Try.underlying23 rfl sizeG h hp hdf hg hR
theorem sizeR : (Try.prog.info? 22).map (·.size) = some 4 := by kernel_rfl
theorem loadR {ops : Array Oper} {rest : List Oper} {o : Oper} {a : Act} {w : World} {Q : Exit → Act → World → Prop} {x : Operand} {b : Nat} {f : Nat → Int} {t : TypeId}
    (hg : Blk w b 4 f t) (hgd : o.guard = none) (ho : o.op = .load 22 x) (hx : a.eval x = .pointer (some ⟨b, 0, none⟩))
    (h : wpList Try.prog ops Q rest (a.put o.dst (.agg (mk 4 f))) w) : wpList Try.prog ops Q (o :: rest) a w :=
  wpList_load_blk hgd _ x ho b 4 f t _ hx hg Try.underlying22 rfl sizeR h
theorem storeR {ops : Array Oper} {rest : List Oper} {o : Oper} {a : Act} {w : World} {Q : Exit → Act → World → Prop} {x y : Operand} {b : Nat} {f g : Nat → Int} {t : TypeId}
    (hg : Blk w b 4 f t) (hgd : o.guard = none) (ho : o.op = .store 22 x y) (hx : a.eval x = .pointer (some ⟨b, 0, none⟩)) (hy : a.eval y = .agg (mk 4 g))
    (h : wpList Try.prog ops Q rest (a.put o.dst undef) (w.setRow b (mk 4 g))) : wpList Try.prog ops Q (o :: rest) a w :=
  wpList_store_blk hgd _ x y ho b 4 f g t hx hy hg sizeR h
theorem loadPR {ops : Array Oper} {rest : List Oper} {o : Oper} {a : Act} {w : World} {Q : Exit → Act → World → Prop} {x : Operand} {b n off : Nat} {f : Nat → Int} {t : TypeId}
    (hg : Blk w b n f t) (hm : off + 4 ≤ n) (hgd : o.guard = none) (ho : o.op = .load 22 x) (hx : a.eval x = .pointer (some ⟨b, off, none⟩))
    (h : wpList Try.prog ops Q rest (a.put o.dst (.agg (mk 4 (fun i => f (off + i))))) w) : wpList Try.prog ops Q (o :: rest) a w :=
  wpList_load_part hgd _ x ho b n off 4 f t _ hx hg hm Try.underlying22 rfl sizeR h
theorem storePR {ops : Array Oper} {rest : List Oper} {o : Oper} {a : Act} {w : World} {Q : Exit → Act → World → Prop} {x y : Operand} {b n off : Nat} {f g : Nat → Int} {t : TypeId}
    (hg : Blk w b n f t) (hm : off + 4 ≤ n) (hgd : o.guard = none) (ho : o.op = .store 22 x y) (hx : a.eval x = .pointer (some ⟨b, off, none⟩)) (hy : a.eval y = .agg (mk 4 g))
    (h : wpList Try.prog ops Q rest (a.put o.dst undef) (w.setRow b (mk n (patch f off 4 g)))) : wpList Try.prog ops Q (o :: rest) a w :=
  wpList_store_part hgd _ x y ho b n off 4 f g t hx hy hg hm sizeR h
theorem retcR {fn : Func} {R : Ending → World → Prop} {a : Act} {w : World} {p : Tmp} {t : TypeId} {b : Nat} {f : Nat → Int}
    (hg : Blk w b 4 f t) (h : fn.results = #[.cell p 22]) (hp : a.tmps.getD p undef = .pointer (some ⟨b, 0, none⟩)) (hdf : a.defers = [])
    (hR : R (.returned (.agg (mk 4 f))) w) : bodyPost Try.prog fn R .ret a w := ret_c Try.underlying22 rfl sizeR h hp hdf hg hR
theorem retctR {fn : Func} {R : Ending → World → Prop} {a : Act} {w : World} {p q : Tmp} {t : TypeId} {b : Nat} {f : Nat → Int}
    (hg : Blk w b 4 f t) (h : fn.results = #[.cell p 22, .tmp q]) (hp : a.tmps.getD p undef = .pointer (some ⟨b, 0, none⟩)) (hdf : a.defers = [])
    (hR : R (.returned (.tuple #[.agg (mk 4 f), a.tmps.getD q undef])) w) : bodyPost Try.prog fn R .ret a w := ret_ct Try.underlying22 rfl sizeR h hp hdf hg hR
theorem retcttR {fn : Func} {R : Ending → World → Prop} {a : Act} {w : World} {p q r : Tmp} {t : TypeId} {b : Nat} {f : Nat → Int}
    (hg : Blk w b 4 f t) (h : fn.results = #[.cell p 22, .tmp q, .tmp r]) (hp : a.tmps.getD p undef = .pointer (some ⟨b, 0, none⟩)) (hdf : a.defers = [])
    (hR : R (.returned (.tuple #[.agg (mk 4 f), a.tmps.getD q undef, a.tmps.getD r undef])) w) : bodyPost Try.prog fn R .ret a w := ret_ctt Try.underlying22 rfl sizeR h hp hdf hg hR
theorem sizeC : (Try.prog.info? 37).map (·.size) = some 2 := by kernel_rfl
theorem loadC {ops : Array Oper} {rest : List Oper} {o : Oper} {a : Act} {w : World} {Q : Exit → Act → World → Prop} {x : Operand} {b : Nat} {f : Nat → Int} {t : TypeId}
    (hg : Blk w b 2 f t) (hgd : o.guard = none) (ho : o.op = .load 37 x) (hx : a.eval x = .pointer (some ⟨b, 0, none⟩))
    (h : wpList Try.prog ops Q rest (a.put o.dst (.agg (mk 2 f))) w) : wpList Try.prog ops Q (o :: rest) a w :=
  wpList_load_blk hgd _ x ho b 2 f t _ hx hg Try.underlying37 rfl sizeC h
theorem storeC {ops : Array Oper} {rest : List Oper} {o : Oper} {a : Act} {w : World} {Q : Exit → Act → World → Prop} {x y : Operand} {b : Nat} {f g : Nat → Int} {t : TypeId}
    (hg : Blk w b 2 f t) (hgd : o.guard = none) (ho : o.op = .store 37 x y) (hx : a.eval x = .pointer (some ⟨b, 0, none⟩)) (hy : a.eval y = .agg (mk 2 g))
    (h : wpList Try.prog ops Q rest (a.put o.dst undef) (w.setRow b (mk 2 g))) : wpList Try.prog ops Q (o :: rest) a w :=
  wpList_store_blk hgd _ x y ho b 2 f g t hx hy hg sizeC h
theorem loadPC {ops : Array Oper} {rest : List Oper} {o : Oper} {a : Act} {w : World} {Q : Exit → Act → World → Prop} {x : Operand} {b n off : Nat} {f : Nat → Int} {t : TypeId}
    (hg : Blk w b n f t) (hm : off + 2 ≤ n) (hgd : o.guard = none) (ho : o.op = .load 37 x) (hx : a.eval x = .pointer (some ⟨b, off, none⟩))
    (h : wpList Try.prog ops Q rest (a.put o.dst (.agg (mk 2 (fun i => f (off + i))))) w) : wpList Try.prog ops Q (o :: rest) a w :=
  wpList_load_part hgd _ x ho b n off 2 f t _ hx hg hm Try.underlying37 rfl sizeC h
theorem storePC {ops : Array Oper} {rest : List Oper} {o : Oper} {a : Act} {w : World} {Q : Exit → Act → World → Prop} {x y : Operand} {b n off : Nat} {f g : Nat → Int} {t : TypeId}
    (hg : Blk w b n f t) (hm : off + 2 ≤ n) (hgd : o.guard = none) (ho : o.op = .store 37 x y) (hx : a.eval x = .pointer (some ⟨b, off, none⟩)) (hy : a.eval y = .agg (mk 2 g))
    (h : wpList Try.prog ops Q rest (a.put o.dst undef) (w.setRow b (mk n (patch f off 2 g)))) : wpList Try.prog ops Q (o :: rest) a w :=
  wpList_store_part hgd _ x y ho b n off 2 f g t hx hy hg hm sizeC h
theorem retcC {fn : Func} {R : Ending → World → Prop} {a : Act} {w : World} {p : Tmp} {t : TypeId} {b : Nat} {f : Nat → Int}
    (hg : Blk w b 2 f t) (h : fn.results = #[.cell p 37]) (hp : a.tmps.getD p undef = .pointer (some ⟨b, 0, none⟩)) (hdf : a.defers = [])
    (hR : R (.returned (.agg (mk 2 f))) w) : bodyPost Try.prog fn R .ret a w := ret_c Try.underlying37 rfl sizeC h hp hdf hg hR
theorem retctC {fn : Func} {R : Ending → World → Prop} {a : Act} {w : World} {p q : Tmp} {t : TypeId} {b : Nat} {f : Nat → Int}
    (hg : Blk w b 2 f t) (h : fn.results = #[.cell p 37, .tmp q]) (hp : a.tmps.getD p undef = .pointer (some ⟨b, 0, none⟩)) (hdf : a.defers = [])
    (hR : R (.returned (.tuple #[.agg (mk 2 f), a.tmps.getD q undef])) w) : bodyPost Try.prog fn R .ret a w := ret_ct Try.underlying37 rfl sizeC h hp hdf hg hR
theorem retcttC {fn : Func} {R : Ending → World → Prop} {a : Act} {w : World} {p q r : Tmp} {t : TypeId} {b : Nat} {f : Nat → Int}
    (hg : Blk w b 2 f t) (h : fn.results = #[.cell p 37, .tmp q, .tmp r]) (hp : a.tmps.getD p undef = .pointer (some ⟨b, 0, none⟩)) (hdf : a.defers = [])
    (hR : R (.returned (.tuple #[.agg (mk 2 f), a.tmps.getD q undef, a.tmps.getD r undef])) w) : bodyPost Try.prog fn R .ret a w := ret_ctt Try.underlying37 rfl sizeC h hp hdf hg hR
theorem sizeN : (Try.prog.info? 167).map (·.size) = some 18 := by kernel_rfl
theorem loadN {ops : Array Oper} {rest : List Oper} {o : Oper} {a : Act} {w : World} {Q : Exit → Act → World → Prop} {x : Operand} {b : Nat} {f : Nat → Int} {t : TypeId}
    (hg : Blk w b 18 f t) (hgd : o.guard = none) (ho : o.op = .load 167 x) (hx : a.eval x = .pointer (some ⟨b, 0, none⟩))
    (h : wpList Try.prog ops Q rest (a.put o.dst (.agg (mk 18 f))) w) : wpList Try.prog ops Q (o :: rest) a w :=
  wpList_load_blk hgd _ x ho b 18 f t _ hx hg Try.underlying167 rfl sizeN h
theorem storeN {ops : Array Oper} {rest : List Oper} {o : Oper} {a : Act} {w : World} {Q : Exit → Act → World → Prop} {x y : Operand} {b : Nat} {f g : Nat → Int} {t : TypeId}
    (hg : Blk w b 18 f t) (hgd : o.guard = none) (ho : o.op = .store 167 x y) (hx : a.eval x = .pointer (some ⟨b, 0, none⟩)) (hy : a.eval y = .agg (mk 18 g))
    (h : wpList Try.prog ops Q rest (a.put o.dst undef) (w.setRow b (mk 18 g))) : wpList Try.prog ops Q (o :: rest) a w :=
  wpList_store_blk hgd _ x y ho b 18 f g t hx hy hg sizeN h
theorem loadPN {ops : Array Oper} {rest : List Oper} {o : Oper} {a : Act} {w : World} {Q : Exit → Act → World → Prop} {x : Operand} {b n off : Nat} {f : Nat → Int} {t : TypeId}
    (hg : Blk w b n f t) (hm : off + 18 ≤ n) (hgd : o.guard = none) (ho : o.op = .load 167 x) (hx : a.eval x = .pointer (some ⟨b, off, none⟩))
    (h : wpList Try.prog ops Q rest (a.put o.dst (.agg (mk 18 (fun i => f (off + i))))) w) : wpList Try.prog ops Q (o :: rest) a w :=
  wpList_load_part hgd _ x ho b n off 18 f t _ hx hg hm Try.underlying167 rfl sizeN h
theorem storePN {ops : Array Oper} {rest : List Oper} {o : Oper} {a : Act} {w : World} {Q : Exit → Act → World → Prop} {x y : Operand} {b n off : Nat} {f g : Nat → Int} {t : TypeId}
    (hg : Blk w b n f t) (hm : off + 18 ≤ n) (hgd : o.guard = none) (ho : o.op = .store 167 x y) (hx : a.eval x = .pointer (some ⟨b, off, none⟩)) (hy : a.eval y = .agg (mk 18 g))
    (h : wpList Try.prog ops Q rest (a.put o.dst undef) (w.setRow b (mk n (patch f off 18 g)))) : wpList Try.prog ops Q (o :: rest) a w :=
  wpList_store_part hgd _ x y ho b n off 18 f g t hx hy hg hm sizeN h
theorem retcN {fn : Func} {R : Ending → World → Prop} {a : Act} {w : World} {p : Tmp} {t : TypeId} {b : Nat} {f : Nat → Int}
    (hg : Blk w b 18 f t) (h : fn.results = #[.cell p 167]) (hp : a.tmps.getD p undef = .pointer (some ⟨b, 0, none⟩)) (hdf : a.defers = [])
    (hR : R (.returned (.agg (mk 18 f))) w) : bodyPost Try.prog fn R .ret a w := ret_c Try.underlying167 rfl sizeN h hp hdf hg hR
theorem retctN {fn : Func} {R : Ending → World → Prop} {a : Act} {w : World} {p q : Tmp} {t : TypeId} {b : Nat} {f : Nat → Int}
    (hg : Blk w b 18 f t) (h : fn.results = #[.cell p 167, .tmp q]) (hp : a.tmps.getD p undef = .pointer (some ⟨b, 0, none⟩)) (hdf : a.defers = [])
    (hR : R (.returned (.tuple #[.agg (mk 18 f), a.tmps.getD q undef])) w) : bodyPost Try.prog fn R .ret a w := ret_ct Try.underlying167 rfl sizeN h hp hdf hg hR
theorem retcttN {fn : Func} {R : Ending → World → Prop} {a : Act} {w : World} {p q r : Tmp} {t : TypeId} {b : Nat} {f : Nat → Int}
    (hg : Blk w b 18 f t) (h : fn.results = #[.cell p 167, .tmp q, .tmp r]) (hp : a.tmps.getD p undef = .pointer (some ⟨b, 0, none⟩)) (hdf : a.defers = [])
    (hR : R (.returned (.tuple #[.agg (mk 18 f), a.tmps.getD q undef, a.tmps.getD r undef])) w) : bodyPost Try.prog fn R .ret a w := ret_ctt Try.underlying167 rfl sizeN h hp hdf hg hR
theorem sizeS : (Try.prog.info? 210).map (·.size) = some 18 := by kernel_rfl
theorem loadS {ops : Array Oper} {rest : List Oper} {o : Oper} {a : Act} {w : World} {Q : Exit → Act → World → Prop} {x : Operand} {b : Nat} {f : Nat → Int} {t : TypeId}
    (hg : Blk w b 18 f t) (hgd : o.guard = none) (ho : o.op = .load 210 x) (hx : a.eval x = .pointer (some ⟨b, 0, none⟩))
    (h : wpList Try.prog ops Q rest (a.put o.dst (.agg (mk 18 f))) w) : wpList Try.prog ops Q (o :: rest) a w :=
  wpList_load_blk hgd _ x ho b 18 f t _ hx hg Try.underlying210 rfl sizeS h
theorem storeS {ops : Array Oper} {rest : List Oper} {o : Oper} {a : Act} {w : World} {Q : Exit → Act → World → Prop} {x y : Operand} {b : Nat} {f g : Nat → Int} {t : TypeId}
    (hg : Blk w b 18 f t) (hgd : o.guard = none) (ho : o.op = .store 210 x y) (hx : a.eval x = .pointer (some ⟨b, 0, none⟩)) (hy : a.eval y = .agg (mk 18 g))
    (h : wpList Try.prog ops Q rest (a.put o.dst undef) (w.setRow b (mk 18 g))) : wpList Try.prog ops Q (o :: rest) a w :=
  wpList_store_blk hgd _ x y ho b 18 f g t hx hy hg sizeS h
theorem loadPS {ops : Array Oper} {rest : List Oper} {o : Oper} {a : Act} {w : World} {Q : Exit → Act → World → Prop} {x : Operand} {b n off : Nat} {f : Nat → Int} {t : TypeId}
    (hg : Blk w b n f t) (hm : off + 18 ≤ n) (hgd : o.guard = none) (ho : o.op = .load 210 x) (hx : a.eval x = .pointer (some ⟨b, off, none⟩))
    (h : wpList Try.prog ops Q rest (a.put o.dst (.agg (mk 18 (fun i => f (off + i))))) w) : wpList Try.prog ops Q (o :: rest) a w :=
  wpList_load_part hgd _ x ho b n off 18 f t _ hx hg hm Try.underlying210 rfl sizeS h
theorem storePS {ops : Array Oper} {rest : List Oper} {o : Oper} {a : Act} {w : World} {Q : Exit → Act → World → Prop} {x y : Operand} {b n off : Nat} {f g : Nat → Int} {t : TypeId}
    (hg : Blk w b n f t) (hm : off + 18 ≤ n) (hgd : o.guard = none) (ho : o.op = .store 210 x y) (hx : a.eval x = .pointer (some ⟨b, off, none⟩)) (hy : a.eval y = .agg (mk 18 g))
    (h : wpList Try.prog ops Q rest (a.put o.dst undef) (w.setRow b (mk n (patch f off 18 g)))) : wpList Try.prog ops Q (o :: rest) a w :=
  wpList_store_part hgd _ x y ho b n off 18 f g t hx hy hg hm sizeS h
theorem retcS {fn : Func} {R : Ending → World → Prop} {a : Act} {w : World} {p : Tmp} {t : TypeId} {b : Nat} {f : Nat → Int}
    (hg : Blk w b 18 f t) (h : fn.results = #[.cell p 210]) (hp : a.tmps.getD p undef = .pointer (some ⟨b, 0, none⟩)) (hdf : a.defers = [])
    (hR : R (.returned (.agg (mk 18 f))) w) : bodyPost Try.prog fn R .ret a w := ret_c Try.underlying210 rfl sizeS h hp hdf hg hR
theorem retctS {fn : Func} {R : Ending → World → Prop} {a : Act} {w : World} {p q : Tmp} {t : TypeId} {b : Nat} {f : Nat → Int}
    (hg : Blk w b 18 f t) (h : fn.results = #[.cell p 210, .tmp q]) (hp : a.tmps.getD p undef = .pointer (some ⟨b, 0, none⟩)) (hdf : a.defers = [])
    (hR : R (.returned (.tuple #[.agg (mk 18 f), a.tmps.getD q undef])) w) : bodyPost Try.prog fn R .ret a w := ret_ct Try.underlying210 rfl sizeS h hp hdf hg hR
theorem retcttS {fn : Func} {R : Ending → World → Prop} {a : Act} {w : World} {p q r : Tmp} {t : TypeId} {b : Nat} {f : Nat → Int}
    (hg : Blk w b 18 f t) (h : fn.results = #[.cell p 210, .tmp q, .tmp r]) (hp : a.tmps.getD p undef = .pointer (some ⟨b, 0, none⟩)) (hdf : a.defers = [])
    (hR : R (.returned (.tuple #[.agg (mk 18 f), a.tmps.getD q undef, a.tmps.getD r undef])) w) : bodyPost Try.prog fn R .ret a w := ret_ctt Try.underlying210 rfl sizeS h hp hdf hg hR
theorem sizeL : (Try.prog.info? 227).map (·.size) = some 8 := by kernel_rfl
theorem loadL {ops : Array Oper} {rest : List Oper} {o : Oper} {a : Act} {w : World} {Q : Exit → Act → World → Prop} {x : Operand} {b : Nat} {f : Nat → Int} {t : TypeId}
    (hg : Blk w b 8 f t) (hgd : o.guard = none) (ho : o.op = .load 227 x) (hx : a.eval x = .pointer (some ⟨b, 0, none⟩))
    (h : wpList Try.prog ops Q rest (a.put o.dst (.agg (mk 8 f))) w) : wpList Try.prog ops Q (o :: rest) a w :=
  wpList_load_blk hgd _ x ho b 8 f t _ hx hg Try.underlying227 rfl sizeL h
theorem storeL {ops : Array Oper} {rest : List Oper} {o : Oper} {a : Act} {w : World} {Q : Exit → Act → World → Prop} {x y : Operand} {b : Nat} {f g : Nat → Int} {t : TypeId}
    (hg : Blk w b 8 f t) (hgd : o.guard = none) (ho : o.op = .store 227 x y) (hx : a.eval x = .pointer (some ⟨b, 0, none⟩)) (hy : a.eval y = .agg (mk 8 g))
    (h : wpList Try.prog ops Q rest (a.put o.dst undef) (w.setRow b (mk 8 g))) : wpList Try.prog ops Q (o :: rest) a w :=
  wpList_store_blk hgd _ x y ho b 8 f g t hx hy hg sizeL h
theorem loadPL {ops : Array Oper} {rest : List Oper} {o : Oper} {a : Act} {w : World} {Q : Exit → Act → World → Prop} {x : Operand} {b n off : Nat} {f : Nat → Int} {t : TypeId}
    (hg : Blk w b n f t) (hm : off + 8 ≤ n) (hgd : o.guard = none) (ho : o.op = .load 227 x) (hx : a.eval x = .pointer (some ⟨b, off, none⟩))
    (h : wpList Try.prog ops Q rest (a.put o.dst (.agg (mk 8 (fun i => f (off + i))))) w) : wpList Try.prog ops Q (o :: rest) a w :=
  wpList_load_part hgd _ x ho b n off 8 f t _ hx hg hm Try.underlying227 rfl sizeL h
theorem storePL {ops : Array Oper} {rest : List Oper} {o : Oper} {a : Act} {w : World} {Q : Exit → Act → World → Prop} {x y : Operand} {b n off : Nat} {f g : Nat → Int} {t : TypeId}
    (hg : Blk w b n f t) (hm : off + 8 ≤ n) (hgd : o.guard = none) (ho : o.op = .store 227 x y) (hx : a.eval x = .pointer (some ⟨b, off, none⟩)) (hy : a.eval y = .agg (mk 8 g))
    (h : wpList Try.prog ops Q rest (a.put o.dst undef) (w.setRow b (mk n (patch f off 8 g)))) : wpList Try.prog ops Q (o :: rest) a w :=
  wpList_store_part hgd _ x y ho b n off 8 f g t hx hy hg hm sizeL h
theorem retcL {fn : Func} {R : Ending → World → Prop} {a : Act} {w : World} {p : Tmp} {t : TypeId} {b : Nat} {f : Nat → Int}
    (hg : Blk w b 8 f t) (h : fn.results = #[.cell p 227]) (hp : a.tmps.getD p undef = .pointer (some ⟨b, 0, none⟩)) (hdf : a.defers = [])
    (hR : R (.returned (.agg (mk 8 f))) w) : bodyPost Try.prog fn R .ret a w := ret_c Try.underlying227 rfl sizeL h hp hdf hg hR
theorem retctL {fn : Func} {R : Ending → World → Prop} {a : Act} {w : World} {p q : Tmp} {t : TypeId} {b : Nat} {f : Nat → Int}
    (hg : Blk w b 8 f t) (h : fn.results = #[.cell p 227, .tmp q]) (hp : a.tmps.getD p undef = .pointer (some ⟨b, 0, none⟩)) (hdf : a.defers = [])
    (hR : R (.returned (.tuple #[.agg (mk 8 f), a.tmps.getD q undef])) w) : bodyPost Try.prog fn R .ret a w := ret_ct Try.underlying227 rfl sizeL h hp hdf hg hR
theorem retcttL {fn : Func} {R : Ending → World → Prop} {a : Act} {w : World} {p q r : Tmp} {t : TypeId} {b : Nat} {f : Nat → Int}
    (hg : Blk w b 8 f t) (h : fn.results = #[.cell p 227, .tmp q, .tmp r]) (hp : a.tmps.getD p undef = .pointer (some ⟨b, 0, none⟩)) (hdf : a.defers = [])
    (hR : R (.returned (.tuple #[.agg (mk 8 f), a.tmps.getD q undef, a.tmps.getD r undef])) w) : bodyPost Try.prog fn R .ret a w := ret_ctt Try.underlying227 rfl sizeL h hp hdf hg hR
theorem sizeK : (Try.prog.info? 25).map (·.size) = some 16 := by kernel_rfl
theorem loadK {ops : Array Oper} {rest : List Oper} {o : Oper} {a : Act} {w : World} {Q : Exit → Act → World → Prop} {x : Operand} {b : Nat} {f : Nat → Int} {t : TypeId}
    (hg : Blk w b 16 f t) (hgd : o.guard = none) (ho : o.op = .load 25 x) (hx : a.eval x = .pointer (some ⟨b, 0, none⟩))
    (h : wpList Try.prog ops Q rest (a.put o.dst (.agg (mk 16 f))) w) : wpList Try.prog ops Q (o :: rest) a w :=
  wpList_load_blk hgd _ x ho b 16 f t _ hx hg Try.underlying25 rfl sizeK h
theorem storeK {ops : Array Oper} {rest : List Oper} {o : Oper} {a : Act} {w : World} {Q : Exit → Act → World → Prop} {x y : Operand} {b : Nat} {f g : Nat → Int} {t : TypeId}
    (hg : Blk w b 16 f t) (hgd : o.guard = none) (ho : o.op = .store 25 x y) (hx : a.eval x = .pointer (some ⟨b, 0, none⟩)) (hy : a.eval y = .agg (mk 16 g))
    (h : wpList Try.prog ops Q rest (a.put o.dst undef) (w.setRow b (mk 16 g))) : wpList Try.prog ops Q (o :: rest) a w :=
  wpList_store_blk hgd _ x y ho b 16 f g t hx hy hg sizeK h
theorem loadPK {ops : Array Oper} {rest : List Oper} {o : Oper} {a : Act} {w : World} {Q : Exit → Act → World → Prop} {x : Operand} {b n off : Nat} {f : Nat → Int} {t : TypeId}
    (hg : Blk w b n f t) (hm : off + 16 ≤ n) (hgd : o.guard = none) (ho : o.op = .load 25 x) (hx : a.eval x = .pointer (some ⟨b, off, none⟩))
    (h : wpList Try.prog ops Q rest (a.put o.dst (.agg (mk 16 (fun i => f (off + i))))) w) : wpList Try.prog ops Q (o :: rest) a w :=
  wpList_load_part hgd _ x ho b n off 16 f t _ hx hg hm Try.underlying25 rfl sizeK h
theorem storePK {ops : Array Oper} {rest : List Oper} {o : Oper} {a : Act} {w : World} {Q : Exit → Act → World → Prop} {x y : Operand} {b n off : Nat} {f g : Nat → Int} {t : TypeId}
    (hg : Blk w b n f t) (hm : off + 16 ≤ n) (hgd : o.guard = none) (ho : o.op = .store 25 x y) (hx : a.eval x = .pointer (some ⟨b, off, none⟩)) (hy : a.eval y = .agg (mk 16 g))
    (h : wpList Try.prog ops Q rest (a.put o.dst undef) (w.setRow b (mk n (patch f off 16 g)))) : wpList Try.prog ops Q (o :: rest) a w :=
  wpList_store_part hgd _ x y ho b n off 16 f g t hx hy hg hm sizeK h
theorem retcK {fn : Func} {R : Ending → World → Prop} {a : Act} {w : World} {p : Tmp} {t : TypeId} {b : Nat} {f : Nat → Int}
    (hg : Blk w b 16 f t) (h : fn.results = #[.cell p 25]) (hp : a.tmps.getD p undef = .pointer (some ⟨b, 0, none⟩)) (hdf : a.defers = [])
    (hR : R (.returned (.agg (mk 16 f))) w) : bodyPost Try.prog fn R .ret a w := ret_c Try.underlying25 rfl sizeK h hp hdf hg hR
theorem retctK {fn : Func} {R : Ending → World → Prop} {a : Act} {w : World} {p q : Tmp} {t : TypeId} {b : Nat} {f : Nat → Int}
    (hg : Blk w b 16 f t) (h : fn.results = #[.cell p 25, .tmp q]) (hp : a.tmps.getD p undef = .pointer (some ⟨b, 0, none⟩)) (hdf : a.defers = [])
    (hR : R (.returned (.tuple #[.agg (mk 16 f), a.tmps.getD q undef])) w) : bodyPost Try.prog fn R .ret a w := ret_ct Try.underlying25 rfl sizeK h hp hdf hg hR
theorem retcttK {fn : Func} {R : Ending → World → Prop} {a : Act} {w : World} {p q r : Tmp} {t : TypeId} {b : Nat} {f : Nat → Int}
    (hg : Blk w b 16 f t) (h : fn.results = #[.cell p 25, .tmp q, .tmp r]) (hp : a.tmps.getD p undef = .pointer (some ⟨b, 0, none⟩)) (hdf : a.defers = [])
    (hR : R (.returned (.tuple #[.agg (mk 16 f), a.tmps.getD q undef, a.tmps.getD r undef])) w) : bodyPost Try.prog fn R .ret a w := ret_ctt Try.underlying25 rfl sizeK h hp hdf hg hR
theorem size1 : (Try.prog.info? 3).map (·.size) = some 1 := by kernel_rfl
theorem idxG (f : Nat → Int) (k : Nat) (hk : k < 4) (w : World) : (Instr.index 23 (.agg (mk 16 f)) (.int .i64 (k : Int))).run Try.prog w = .ok (.agg (mk 4 (fun c => f (k * 4 + c)))) w :=
  run_index_row Try.underlying23 Try.underlying22 rfl sizeR f hk (by omega) w
theorem idxR (f : Nat → Int) (k : Nat) (hk : k < 4) (w : World) : (Instr.index 22 (.agg (mk 4 f)) (.int .i64 (k : Int))).run Try.prog w = .ok (.int .i64 (f k)) w :=
  run_index_int Try.underlying22 Try.underlying3 size1 f hk w
end Go.Proofs.Ytfjpdopljmilpaa
namespace Go.Proofs.Ytfjpdopljmilpaa
open Go.RowKit Plain

theorem l1In_yes (x a b : Int) (w : World) (h0 : a ≤ x) (h1 : x ≤ b) :
    Calls Try.prog 139 #[.int .i64 x, .int .i64 a, .int .i64 b] w fun e w' => e = .returned (.bool true) ∧ w = w' := by
  go_enter Try.func139, Try.ntmps139
  go_wp2
  go_ret
  exact ⟨rfl, rfl⟩
theorem l1In_no (x a b : Int) (w : World) (h : x < a ∨ b < x) :
    Calls Try.prog 139 #[.int .i64 x, .int .i64 a, .int .i64 b] w fun e w' => e = .returned (.bool false) ∧ w = w' := by
  by_cases h0 : a ≤ x
  · have h1 : b < x := by omega
    have h2 : decide (x ≤ b) = false := by simp; omega
    clear h
    go_enter Try.func139, Try.ntmps139
    go_wp2
    go_ret
    exact ⟨rfl, rfl⟩
  · have h1 : x < a := by omega
    have h2 : decide (a ≤ x) = false := by simp; omega
    clear h h0
    go_enter Try.func139, Try.ntmps139
    go_wp2
    go_ret
    exact ⟨rfl, rfl⟩
theorem isTile_yes (x : Int) (w : World) (h0 : 1 ≤ x) (h1 : x ≤ 17) :
    Calls Try.prog 194 #[.int .i64 x] w fun e w' => e = .returned (.bool true) ∧ w = w' := by
  have d0 : decide (1 ≤ x) = true := by simpa using h0
  have d1 : decide (x ≤ 17) = true := by simp; omega
  clear h0 h1
  go_enter Try.func194, Try.ntmps194
  go_wp2
  go_ret
  exact ⟨rfl, rfl⟩
theorem isTile_no (x : Int) (w : World) (h : x < 1 ∨ 17 < x) :
    Calls Try.prog 194 #[.int .i64 x] w fun e w' => e = .returned (.bool false) ∧ w = w' := by
  by_cases h0 : 1 ≤ x
  · have d0 : decide (1 ≤ x) = true := by simpa using h0
    have d1 : decide (x ≤ 17) = false := by simp; omega
    clear h h0
    go_enter Try.func194, Try.ntmps194
    go_wp2
    go_ret
    exact ⟨rfl, rfl⟩
  · have d0 : decide (1 ≤ x) = false := by simp; omega
    clear h h0
    go_enter Try.func194, Try.ntmps194
    go_wp2
    go_ret
    exact ⟨rfl, rfl⟩
theorem isDirection_yes (x : Int) (w : World) (h0 : 0 ≤ x) (h1 : x ≤ 3) :
    Calls Try.prog 211 #[.int .i64 x] w fun e w' => e = .returned (.bool true) ∧ w = w' := by
  have d0 : decide (0 ≤ x) = true := by simpa using h0
  have d1 : decide (x < 4) = true := by simp; omega
  clear h0 h1
  go_enter Try.func211, Try.ntmps211
  go_wp2
  go_ret
  exact ⟨rfl, rfl⟩
theorem isDirection_no (x : Int) (w : World) (h : x < 0 ∨ 3 < x) :
    Calls Try.prog 211 #[.int .i64 x] w fun e w' => e = .returned (.bool false) ∧ w = w' := by
  by_cases h0 : 0 ≤ x
  · have d0 : decide (0 ≤ x) = true := by simpa using h0
    have d1 : decide (x < 4) = false := by simp; omega
    clear h h0
    go_enter Try.func211, Try.ntmps211
    go_wp2
    go_ret
    exact ⟨rfl, rfl⟩
  · have d0 : decide (0 ≤ x) = false := by simp; omega
    clear h h0
    go_enter Try.func211, Try.ntmps211
    go_wp2
    go_ret
    exact ⟨rfl, rfl⟩
theorem isLine_yes (x : Int) (w : World) (h0 : 0 ≤ x) (h1 : x ≤ 3) :
    Calls Try.prog 252 #[.int .i64 x] w fun e w' => e = .returned (.bool true) ∧ w = w' := by
  have d0 : decide (0 ≤ x) = true := by simpa using h0
  have d1 : decide (x < 4) = true := by simp; omega
  clear h0 h1
  go_enter Try.func252, Try.ntmps252
  go_wp2
  go_ret
  exact ⟨rfl, rfl⟩
theorem isLine_no (x : Int) (w : World) (h : x < 0 ∨ 3 < x) :
    Calls Try.prog 252 #[.int .i64 x] w fun e w' => e = .returned (.bool false) ∧ w = w' := by
  by_cases h0 : 0 ≤ x
  · have d0 : decide (0 ≤ x) = true := by simpa using h0
    have d1 : decide (x < 4) = false := by simp; omega
    clear h h0
    go_enter Try.func252, Try.ntmps252
    go_wp2
    go_ret
    exact ⟨rfl, rfl⟩
  · have d0 : decide (0 ≤ x) = false := by simp; omega
    clear h h0
    go_enter Try.func252, Try.ntmps252
    go_wp2
    go_ret
    exact ⟨rfl, rfl⟩
theorem l2Tile_yes (x : Int) (w : World) (h0 : 1 ≤ x) (h1 : x ≤ 17) :
    Calls Try.prog 203 #[.int .i64 x] w fun e w' => e = .returned (.bool true) ∧ w = w' := by
  go_enter Try.func203, Try.ntmps203
  go_wp2_with fail
  refine (l1In_yes x 1 17 _ h0 h1).mono ?_
  rintro e w' ⟨rfl, rfl⟩
  go_wp2
  go_ret
  exact ⟨rfl, rfl⟩
theorem l2Tile_no (x : Int) (w : World) (h : x < 1 ∨ 17 < x) :
    Calls Try.prog 203 #[.int .i64 x] w fun e w' => e = .returned (.bool false) ∧ w = w' := by
  have H := Lib.hid h
  clear h
  go_enter Try.func203, Try.ntmps203
  go_wp2_with fail
  refine (l1In_no x 1 17 _ H.out).mono ?_
  rintro e w' ⟨rfl, rfl⟩
  go_wp2
  go_ret
  exact ⟨rfl, rfl⟩
theorem l2Side_yes (x : Int) (w : World) (h0 : 0 ≤ x) (h1 : x ≤ 3) :
    Calls Try.prog 213 #[.int .i64 x] w fun e w' => e = .returned (.bool true) ∧ w = w' := by
  go_enter Try.func213, Try.ntmps213
  go_wp2_with fail
  refine (l1In_yes x 0 3 _ h0 h1).mono ?_
  rintro e w' ⟨rfl, rfl⟩
  go_wp2
  go_ret
  exact ⟨rfl, rfl⟩
theorem l2Side_no (x : Int) (w : World) (h : x < 0 ∨ 3 < x) :
    Calls Try.prog 213 #[.int .i64 x] w fun e w' => e = .returned (.bool false) ∧ w = w' := by
  have H := Lib.hid h
  clear h
  go_enter Try.func213, Try.ntmps213
  go_wp2_with fail
  refine (l1In_no x 0 3 _ H.out).mono ?_
  rintro e w' ⟨rfl, rfl⟩
  go_wp2
  go_ret
  exact ⟨rfl, rfl⟩

theorem worthOf_any (t : Int) (w : World) (h0 : 0 ≤ t) (h1 : t ≤ 18) :
    Calls Try.prog 174 #[.int .i64 t] w fun e w' => e = .returned (.int .i64 (worth t)) ∧ w = w' := by
  have h2 : t ≤ 64 := by omega
  have HW := Lib.hid (worth_bd h0 h1)
  go_enter Try.func174, Try.ntmps174
  go_wp2
  go_ret
  refine ⟨ret_int ?_, rfl⟩
  obtain ⟨a, b⟩ := HW.out
  exact IntWalk.wrap64_in (worth t) ⟨by omega, by omega⟩
theorem l2Worth_any (t : Int) (w : World) (h0 : 0 ≤ t) (h1 : t ≤ 18) :
    Calls Try.prog 254 #[.int .i64 t] w fun e w' => e = .returned (.int .i64 (worth t)) ∧ w = w' := by
  have h2 : t ≤ 64 := by omega
  have HW := Lib.hid (worth_bd h0 h1)
  go_enter Try.func254, Try.ntmps254
  go_wp2
  go_ret
  refine ⟨ret_int ?_, rfl⟩
  obtain ⟨a, b⟩ := HW.out
  exact IntWalk.wrap64_in (worth t) ⟨by omega, by omega⟩

/-- The cell lies on a board. -/
def CellOk (g : Nat → Int) : Prop := (0 ≤ g 0 ∧ g 0 ≤ 3) ∧ 0 ≤ g 1 ∧ g 1 ≤ 3
instance (g : Nat → Int) : Decidable (CellOk g) := by unfold CellOk; infer_instance
theorem isCell_yes (g : Nat → Int) (w : World) (h : CellOk g) :
    Calls Try.prog 193 #[.agg (mk 2 g)] w fun e w' => e = .returned (.bool true) ∧ Below w.heap.size w w' := by
  obtain ⟨⟨a0, a1⟩, b0, b1⟩ := h
  have m0 : (mk 2 g)[0]? = some (.int .i64 (g 0)) := mk_get g (by omega)
  have m1 : (mk 2 g)[1]? = some (.int .i64 (g 1)) := mk_get g (by omega)
  have HB := Lib.hid ((Below.refl w.heap.size w).alloc (Nat.le_refl _) (.cells (mk 2 g) 37))
  generalize g 0 = x at *
  generalize g 1 = y at *
  go_enter Try.func193, Try.ntmps193
  go_wp2_with fail
  refine (isLine_yes x _ a0 a1).mono ?_
  rintro e w' ⟨rfl, rfl⟩
  go_wp2_with fail
  refine (isLine_yes y _ b0 b1).mono ?_
  rintro e w' ⟨rfl, rfl⟩
  go_wp2_with fail
  go_ret
  exact ⟨rfl, HB.out⟩
theorem isCell_no (g : Nat → Int) (w : World) (h : ¬ CellOk g) :
    Calls Try.prog 193 #[.agg (mk 2 g)] w fun e w' => e = .returned (.bool false) ∧ Below w.heap.size w w' := by
  have m0 : (mk 2 g)[0]? = some (.int .i64 (g 0)) := mk_get g (by omega)
  have m1 : (mk 2 g)[1]? = some (.int .i64 (g 1)) := mk_get g (by omega)
  have HB := Lib.hid ((Below.refl w.heap.size w).alloc (Nat.le_refl _) (.cells (mk 2 g) 37))
  unfold CellOk at h
  generalize g 0 = x at *
  generalize g 1 = y at *
  by_cases hx : 0 ≤ x ∧ x ≤ 3
  · have H := Lib.hid (show y < 0 ∨ 3 < y by omega)
    obtain ⟨a0, a1⟩ := hx
    clear h
    go_enter Try.func193, Try.ntmps193
    go_wp2_with fail
    refine (isLine_yes x _ a0 a1).mono ?_
    rintro e w' ⟨rfl, rfl⟩
    go_wp2_with fail
    refine (isLine_no y _ H.out).mono ?_
    rintro e w' ⟨rfl, rfl⟩
    go_wp2_with fail
    go_ret
    exact ⟨rfl, HB.out⟩
  · have H := Lib.hid (show x < 0 ∨ 3 < x by omega)
    clear h hx
    go_enter Try.func193, Try.ntmps193
    go_wp2_with fail
    refine (isLine_no x _ H.out).mono ?_
    rintro e w' ⟨rfl, rfl⟩
    go_wp2_with fail
    go_ret
    exact ⟨rfl, HB.out⟩
theorem l2Cell_yes (g : Nat → Int) (w : World) (h : CellOk g) :
    Calls Try.prog 196 #[.agg (mk 2 g)] w fun e w' => e = .returned (.bool true) ∧ Below w.heap.size w w' := by
  obtain ⟨⟨a0, a1⟩, b0, b1⟩ := h
  have m0 : (mk 2 g)[0]? = some (.int .i64 (g 0)) := mk_get g (by omega)
  have m1 : (mk 2 g)[1]? = some (.int .i64 (g 1)) := mk_get g (by omega)
  have HB := Lib.hid ((Below.refl w.heap.size w).alloc (Nat.le_refl _) (.cells (mk 2 g) 37))
  generalize g 0 = x at *
  generalize g 1 = y at *
  go_enter Try.func196, Try.ntmps196
  go_wp2_with fail
  refine (l1In_yes x 0 3 _ a0 a1).mono ?_
  rintro e w' ⟨rfl, rfl⟩
  go_wp2_with fail
  refine (l1In_yes y 0 3 _ b0 b1).mono ?_
  rintro e w' ⟨rfl, rfl⟩
  go_wp2_with fail
  go_ret
  exact ⟨rfl, HB.out⟩
theorem l2Cell_no (g : Nat → Int) (w : World) (h : ¬ CellOk g) :
    Calls Try.prog 196 #[.agg (mk 2 g)] w fun e w' => e = .returned (.bool false) ∧ Below w.heap.size w w' := by
  have m0 : (mk 2 g)[0]? = some (.int .i64 (g 0)) := mk_get g (by omega)
  have m1 : (mk 2 g)[1]? = some (.int .i64 (g 1)) := mk_get g (by omega)
  have HB := Lib.hid ((Below.refl w.heap.size w).alloc (Nat.le_refl _) (.cells (mk 2 g) 37))
  unfold CellOk at h
  generalize g 0 = x at *
  generalize g 1 = y at *
  by_cases hx : 0 ≤ x ∧ x ≤ 3
  · have H := Lib.hid (show y < 0 ∨ 3 < y by omega)
    obtain ⟨a0, a1⟩ := hx
    clear h
    go_enter Try.func196, Try.ntmps196
    go_wp2_with fail
    refine (l1In_yes x 0 3 _ a0 a1).mono ?_
    rintro e w' ⟨rfl, rfl⟩
    go_wp2_with fail
    refine (l1In_no y 0 3 _ H.out).mono ?_
    rintro e w' ⟨rfl, rfl⟩
    go_wp2_with fail
    go_ret
    exact ⟨rfl, HB.out⟩
  · have H := Lib.hid (show x < 0 ∨ 3 < x by omega)
    clear h hx
    go_enter Try.func196, Try.ntmps196
    go_wp2_with fail
    refine (l1In_no x 0 3 _ H.out).mono ?_
    rintro e w' ⟨rfl, rfl⟩
    go_wp2_with fail
    go_ret
    exact ⟨rfl, HB.out⟩
end Go.Proofs.Ytfjpdopljmilpaa
namespace Go.Proofs.Ytfjpdopljmilpaa
open Go.RowKit Plain

theorem items_all {P : Program} (d : Nat) (e : TypeId) (c : Nat) (xs ys : Array Value) (w : World) (a b : Nat → Value) (r : Nat → Bool) : ∀ is : List Nat,
    (∀ i ∈ is, (part e xs (i * c)).run P w = .ok (a i) w ∧ (part e ys (i * c)).run P w = .ok (b i) w ∧ (Op.equalIn d e (a i) (b i)).run P w = .ok (r i) w) →
    (Op.eqItems d e c xs ys is).run P w = .ok (is.all r) w
  | [], _ => by simp [Op.eqItems]
  | i :: is, h => by
    obtain ⟨h1, h2, h3⟩ := h i (by simp)
    have ih := items_all d e c xs ys w a b r is (fun j hj => h j (by simp [hj]))
    simp only [Op.eqItems, Sem.run_bind, h1, h2, h3, Result.andThen_ok]
    cases hr : r i <;> simp [hr, ih]
theorem part_int {P : Program} {e : TypeId} {n k : Nat} (he : P.underlying e = some (.int .i64)) (f : Nat → Int) (hk : k < n) (w : World) :
    (part e (mk n f) (k * 1)).run P w = .ok (.int .i64 (f k)) w := by
  have hagg : (isAgg e).run P w = .ok false w := by
    unfold isAgg
    rw [Sem.run_bind, run_underlying he w]
    simp
  simp [part, hagg, mk_get f hk]
theorem part_row {P : Program} {e : TypeId} {m n k : Nat} {d : TypeDesc} (he : P.underlying e = some d) (hd : d.isRow = true)
    (hi : (P.info? e).map (·.size) = some m) (f : Nat → Int) (hn : k * m + m ≤ n) (w : World) :
    (part e (mk n f) (k * m)).run P w = .ok (.agg (mk m (fun c => f (k * m + c)))) w := by
  have hagg : (isAgg e).run P w = .ok true w := by
    unfold isAgg
    rw [Sem.run_bind, run_underlying he w]
    cases d <;> simp_all
  cases hq : P.info? e with
  | none => simp [hq] at hi
  | some i =>
    have hs : i.size = m := by simpa [hq] using hi
    simp [part, hagg, sizeOf, typeInfo, hq, hs, mk_extract f (k * m) m hn]
theorem cells1 : Try.prog.cellsOf 3 = 1 := by kernel_rfl
theorem cellsQ : Try.prog.cellsOf 22 = 4 := by kernel_rfl
theorem eqR (d : Nat) (f g : Nat → Int) (w : World) : (Op.equalIn (d + 2) 22 (.agg (mk 4 f)) (.agg (mk 4 g))).run Try.prog w = .ok (sameR f g) w := by
  cases hq : Try.prog.info? 3 with
  | none => have := size1; simp [hq] at this
  | some i =>
    rw [run_equalIn_array w (d + 1) (mk 4 f) (mk 4 g) Try.underlying22 hq, cells1]
    exact items_all _ _ _ _ _ _ (fun c => .int .i64 (f c)) (fun c => .int .i64 (g c)) (fun c => f c == g c) _ fun c hc => by
      have hc4 : c < 4 := List.mem_range.1 hc
      exact ⟨part_int Try.underlying3 f hc4 w, part_int Try.underlying3 g hc4 w, run_equalIn_int w d _ _ _ _ _ Try.underlying3⟩
theorem eqG (d : Nat) (f g : Nat → Int) (w : World) : (Op.equalIn (d + 3) 23 (.agg (mk 16 f)) (.agg (mk 16 g))).run Try.prog w = .ok (sameB f g) w := by
  cases hq : Try.prog.info? 22 with
  | none => have := sizeR; simp [hq] at this
  | some i =>
    rw [run_equalIn_array w (d + 2) (mk 16 f) (mk 16 g) Try.underlying23 hq, cellsQ]
    exact items_all _ _ _ _ _ _ (fun r => .agg (mk 4 fun c => f (r * 4 + c))) (fun r => .agg (mk 4 fun c => g (r * 4 + c))) (fun r => sameR (fun c => f (r * 4 + c)) (fun c => g (r * 4 + c))) _ fun r hr => by
      have hr4 : r < 4 := List.mem_range.1 hr
      exact ⟨part_row Try.underlying22 rfl sizeR f (by omega) w, part_row Try.underlying22 rfl sizeR g (by omega) w, eqR d _ _ w⟩
theorem eqB (d : Nat) (f g : Nat → Int) (w : World) : (Op.equalIn (d + 4) 26 (.agg (mk 16 f)) (.agg (mk 16 g))).run Try.prog w = .ok (sameB f g) w := by
  rw [run_equalIn_struct w (d + 3) 26 (mk 16 f) (mk 16 g) (by kernel_rfl) (by kernel_rfl)]
  have hp : ∀ h : Nat → Int, (part 23 (mk 16 h) 0).run Try.prog w = .ok (.agg (mk 16 h)) w := fun h => by
    have := part_row (P := Try.prog) (m := 16) (n := 16) (k := 0) Try.underlying23 rfl sizeG h (by omega) w
    simp only [Nat.zero_mul, Nat.zero_add] at this
    exact this
  have hf : (Try.prog.fieldsOf 26).toList.map (fun f => (f.name, f.type, f.offset)) = [("Rows", 23, 0)] := by kernel_rfl
  generalize (Try.prog.fieldsOf 26).toList = fs at hf
  cases fs with
  | nil => simp at hf
  | cons q qs =>
    cases qs with
    | cons q2 qs => simp at hf
    | nil =>
      simp only [List.map_cons, List.map_nil, List.cons.injEq, Prod.mk.injEq, and_true] at hf
      obtain ⟨h1, h2, h3⟩ := hf
      cases hs : sameB f g <;> simp [Op.eqFields, h1, h2, h3, hp, eqG, hs]
theorem neqG (f g : Nat → Int) (w : World) : (binOp .neq 23 (.agg (mk 16 f)) (.agg (mk 16 g))).run Try.prog w = .ok (.bool (!sameB f g)) w := by
  rw [run_neq_struct, eqG]; rfl
theorem neqB (f g : Nat → Int) (w : World) : (binOp .neq 26 (.agg (mk 16 f)) (.agg (mk 16 g))).run Try.prog w = .ok (.bool (!sameB f g)) w := by
  rw [run_neq_struct, eqB]; rfl
theorem neqR (f g : Nat → Int) (w : World) : (binOp .neq 22 (.agg (mk 4 f)) (.agg (mk 4 g))).run Try.prog w = .ok (.bool (!sameR f g)) w := by
  rw [run_neq_struct, eqR]; rfl
end Go.Proofs.Ytfjpdopljmilpaa
namespace Go.Proofs.Ytfjpdopljmilpaa
open Go.RowKit Plain
attribute [local go_sem] store_new

theorem unturned_any (f : Nat → Int) (w : World) :
    Calls Try.prog 291 #[.agg (mk 16 f)] w fun e w' => e = .returned (.agg (mk 16 f)) ∧ Below w.heap.size w w' := by
  have z16 := zero16
  have K1 := (Blk.new w 16 f 26).alloc (.cells (mk 16 fun _ => 0) 26)
  have K2 := Blk.new (w.alloc (.cells (mk 16 f) 26)) 16 (fun _ => 0) 26
  have HB := Lib.hid (((Below.refl w.heap.size w).alloc (Nat.le_refl _) (.cells (mk 16 f) 26)).alloc (by simp) (.cells (mk 16 fun _ => 0) 26))
  simp only [World.size_alloc] at K2
  go_enter Try.func291, Try.ntmps291
  go_wp2_with (first | ((with_reducible show wpList _ _ _ (Oper.mk _ (Op.load 26 _) _ _ _ _ :: _) _ _); refine loadB (K1) rfl rfl rfl ?_) | ((with_reducible show wpList _ _ _ (Oper.mk _ (Op.store 26 _ _) _ _ _ _ :: _) _ _); refine storeB (K2) rfl rfl rfl rfl ?_))
  try simp only [Exit.inBlock, Exit.then]
  first
    | exact retcB (K2.row 16 _) rfl rfl rfl ⟨rfl, below_setRow HB.out (by omega) _⟩
    | exact retcB (Blk.new _ _ _ _) rfl rfl rfl ⟨rfl, ((Below.refl w.heap.size w).alloc (Nat.le_refl _) _).alloc (by simp) _⟩

set_option maxHeartbeats 400000 in
theorem transposed_any (f : Nat → Int) (w : World) :
    Calls Try.prog 292 #[.agg (mk 16 f)] w fun e w' => e = .returned (.agg (mk 16 (fun j => f (j % 4 * 4 + j / 4)))) ∧ Below w.heap.size w w' := by
  have z16 := zero16
  have z4 := zero4
  have iG := idxG
  have iR := idxR
  go_enter Try.func292, Try.ntmps292
  go_wp2_with ((with_reducible show wpList _ _ _ (Oper.mk _ (Op.load 23 _) _ _ _ _ :: _) _ _); refine loadG (((Blk.new _ _ _ _).alloc _).alloc _) rfl rfl rfl ?_)
  have K2 := (Blk.new (w.alloc (.cells (mk 16 f) 26)) 16 (fun _ => 0) 26).alloc (.cells (mk 16 fun _ => 0) 26)
  have K3 := Blk.new ((w.alloc (.cells (mk 16 f) 26)).alloc (.cells (mk 16 fun _ => 0) 26)) 16 (fun _ => 0) 26
  have HB := Lib.hid ((((Below.refl w.heap.size w).alloc (Nat.le_refl _) (.cells (mk 16 f) 26)).alloc (by simp) (.cells (mk 16 fun _ => 0) 26)).alloc (by simp; omega) (.cells (mk 16 fun _ => 0) 26))
  simp only [World.size_alloc] at K2 K3
  generalize ((w.alloc (.cells (mk 16 f) 26)).alloc (.cells (mk 16 fun _ => 0) 26)).alloc (.cells (mk 16 fun _ => 0) 26) = w1 at *
  go_loopg [11] 4 (fun g s11 wr => ∃ r : Nat, r + g = 4 ∧ s11 = .int .i64 r ∧ Blk wr (w.heap.size + 1) 16 (fun _ => 0) 26 ∧ Blk wr (w.heap.size + 1 + 1) 16 (trF f r 0) 26 ∧ Hid (Below w.heap.size w wr))
  case atStart => exact ⟨0, by omega, rfl, K2, K3.congr fun j _ => (trF_zero f j).symm, HB⟩
  case round =>
    obtain ⟨r, hrg, rfl, k2, k3, hb⟩ := hrel
    cases gk with
    | zero =>
      have hr : ¬ ((r : Int) < 4) := by omega
      have HR : Hid (r = 4) := by show r = 4; omega
      clear hrg
      go_wp2_with (first | ((with_reducible show wpList _ _ _ (Oper.mk _ (Op.load 26 _) _ _ _ _ :: _) _ _); refine loadB (k3) rfl rfl rfl ?_) | ((with_reducible show wpList _ _ _ (Oper.mk _ (Op.store 26 _ _) _ _ _ _ :: _) _ _); refine storeB (k2) rfl rfl rfl rfl ?_))
      try simp only [Exit.inBlock, Exit.then]
      refine retcB (k2.row 16 _) rfl rfl rfl ⟨?_, below_setRow hb.out (by omega) _⟩
      rw [HR.out, mk_congr (trF_all f)]
    | succ g =>
      have hr4 : (r : Int) < 4 := by omega
      have hr5 : r < 4 := by omega
      have hlt := k3.lt
      go_wp2_with ((with_reducible show wpList _ _ _ (Oper.mk _ (Op.load 22 _) _ _ _ _ :: _) _ _); refine loadR (Blk.new _ _ _ _) rfl rfl rfl ?_)
      go_loopg [16] 4 (fun h s16 wx => ∃ c : Nat, c + h = 4 ∧ s16 = .int .i64 c ∧ Blk wx (w.heap.size + 1) 16 (fun _ => 0) 26 ∧ Blk wx (w.heap.size + 1 + 1) 16 (trF f r c) 26 ∧ Hid (Below w.heap.size w wx))
      case atStart => exact ⟨0, by omega, rfl, k2.alloc _, k3.alloc _, hb.out.alloc (by omega) _⟩
      case round =>
        obtain ⟨c, hch, rfl, k2, k3, hb⟩ := hrel
        cases gk with
        | zero =>
          have hc : ¬ ((c : Int) < 4) := by omega
          have HC : Hid (c = 4) := by show c = 4; omega
          clear hch
          go_wp2_with fail
          go_roundg g
          case rel => exact ⟨r + 1, by omega, by go_num, k2, by rw [HC.out] at k3; exact k3.congr (trF_row f r), hb⟩
          case measure => omega
        | succ h =>
          have hc : (c : Int) < 4 := by omega
          have hc5 : c < 4 := by omega
          skip
          have c3 := k3.cell (i := c * 4 + r) (by omega)
          have f3 := k3.free (c * 4 + r)
          go_wp2_with fail
          go_roundg h
          case rel => exact ⟨c + 1, by omega, by go_num, k2.setOther _ _ (by dsimp only; omega), (k3.set (by omega) _).congr (trF_step f hr5), hb.out.setCell (by dsimp only; omega) _⟩
          case measure => omega
set_option maxHeartbeats 400000 in
theorem mirrored_any (f : Nat → Int) (w : World) :
    Calls Try.prog 293 #[.agg (mk 16 f)] w fun e w' => e = .returned (.agg (mk 16 (fun j => f (j / 4 * 4 + (3 - j % 4))))) ∧ Below w.heap.size w w' := by
  have z16 := zero16
  have z4 := zero4
  have iG := idxG
  have iR := idxR
  go_enter Try.func293, Try.ntmps293
  go_wp2_with ((with_reducible show wpList _ _ _ (Oper.mk _ (Op.load 23 _) _ _ _ _ :: _) _ _); refine loadG (((Blk.new _ _ _ _).alloc _).alloc _) rfl rfl rfl ?_)
  have K2 := (Blk.new (w.alloc (.cells (mk 16 f) 26)) 16 (fun _ => 0) 26).alloc (.cells (mk 16 fun _ => 0) 26)
  have K3 := Blk.new ((w.alloc (.cells (mk 16 f) 26)).alloc (.cells (mk 16 fun _ => 0) 26)) 16 (fun _ => 0) 26
  have HB := Lib.hid ((((Below.refl w.heap.size w).alloc (Nat.le_refl _) (.cells (mk 16 f) 26)).alloc (by simp) (.cells (mk 16 fun _ => 0) 26)).alloc (by simp; omega) (.cells (mk 16 fun _ => 0) 26))
  simp only [World.size_alloc] at K2 K3
  generalize ((w.alloc (.cells (mk 16 f) 26)).alloc (.cells (mk 16 fun _ => 0) 26)).alloc (.cells (mk 16 fun _ => 0) 26) = w1 at *
  go_loopg [11] 4 (fun g s11 wr => ∃ r : Nat, r + g = 4 ∧ s11 = .int .i64 r ∧ Blk wr (w.heap.size + 1) 16 (fun _ => 0) 26 ∧ Blk wr (w.heap.size + 1 + 1) 16 (miF f r 0) 26 ∧ Hid (Below w.heap.size w wr))
  case atStart => exact ⟨0, by omega, rfl, K2, K3.congr fun j _ => (miF_zero f j).symm, HB⟩
  case round =>
    obtain ⟨r, hrg, rfl, k2, k3, hb⟩ := hrel
    cases gk with
    | zero =>
      have hr : ¬ ((r : Int) < 4) := by omega
      have HR : Hid (r = 4) := by show r = 4; omega
      clear hrg
      go_wp2_with (first | ((with_reducible show wpList _ _ _ (Oper.mk _ (Op.load 26 _) _ _ _ _ :: _) _ _); refine loadB (k3) rfl rfl rfl ?_) | ((with_reducible show wpList _ _ _ (Oper.mk _ (Op.store 26 _ _) _ _ _ _ :: _) _ _); refine storeB (k2) rfl rfl rfl rfl ?_))
      try simp only [Exit.inBlock, Exit.then]
      refine retcB (k2.row 16 _) rfl rfl rfl ⟨?_, below_setRow hb.out (by omega) _⟩
      rw [HR.out, mk_congr (miF_all f)]
    | succ g =>
      have hr4 : (r : Int) < 4 := by omega
      have hr5 : r < 4 := by omega
      have hlt := k3.lt
      go_wp2_with ((with_reducible show wpList _ _ _ (Oper.mk _ (Op.load 22 _) _ _ _ _ :: _) _ _); refine loadR (Blk.new _ _ _ _) rfl rfl rfl ?_)
      go_loopg [16] 4 (fun h s16 wx => ∃ c : Nat, c + h = 4 ∧ s16 = .int .i64 c ∧ Blk wx (w.heap.size + 1) 16 (fun _ => 0) 26 ∧ Blk wx (w.heap.size + 1 + 1) 16 (miF f r c) 26 ∧ Hid (Below w.heap.size w wx))
      case atStart => exact ⟨0, by omega, rfl, k2.alloc _, k3.alloc _, hb.out.alloc (by omega) _⟩
      case round =>
        obtain ⟨c, hch, rfl, k2, k3, hb⟩ := hrel
        cases gk with
        | zero =>
          have hc : ¬ ((c : Int) < 4) := by omega
          have HC : Hid (c = 4) := by show c = 4; omega
          clear hch
          go_wp2_with fail
          go_roundg g
          case rel => exact ⟨r + 1, by omega, by go_num, k2, by rw [HC.out] at k3; exact k3.congr (miF_row f r), hb⟩
          case measure => omega
        | succ h =>
          have hc : (c : Int) < 4 := by omega
          have hc5 : c < 4 := by omega
          skip
          have c3 := k3.cell (i := r * 4 + (3 - c)) (by omega)
          have f3 := k3.free (r * 4 + (3 - c))
          go_wp2_with fail
          go_roundg h
          case rel => exact ⟨c + 1, by omega, by go_num, k2.setOther _ _ (by dsimp only; omega), (k3.set (by omega) _).congr (miF_step f (show c + (3 - c) = 3 by omega)), hb.out.setCell (by dsimp only; omega) _⟩
          case measure => omega

theorem turned_any (f : Nat → Int) (w : World) :
    Calls Try.prog 294 #[.agg (mk 16 f)] w fun e w' => e = .returned (.agg (mk 16 (fun j => f ((3 - j % 4) * 4 + j / 4)))) ∧ Below w.heap.size w w' := by
  have z16 := zero16
  have K1 := (Blk.new w 16 f 26).alloc (.cells (mk 16 fun _ => 0) 26)
  have K2 := Blk.new (w.alloc (.cells (mk 16 f) 26)) 16 (fun _ => 0) 26
  have HB := Lib.hid (((Below.refl w.heap.size w).alloc (Nat.le_refl _) (.cells (mk 16 f) 26)).alloc (by simp) (.cells (mk 16 fun _ => 0) 26))
  simp only [World.size_alloc] at K2
  go_enter Try.func294, Try.ntmps294
  go_wp2_with ((with_reducible show wpList _ _ _ (Oper.mk _ (Op.load 26 _) _ _ _ _ :: _) _ _); refine loadB (K1) rfl rfl rfl ?_)
  refine (transposed_any _ _).mono ?_
  rintro e w2 ⟨rfl, hb2⟩
  have k2 := K2.below hb2 (by simp)
  have HB2 : Hid (Below w.heap.size w w2) := HB.out.trans (hb2.mono HB.out.size)
  clear hb2 HB K1 K2
  go_wp2_with fail
  refine (mirrored_any _ _).mono ?_
  rintro e w3 ⟨rfl, hb3⟩
  have k3 := k2.below hb3 k2.lt
  have HB3 : Hid (Below w.heap.size w w3) := HB2.out.trans (hb3.mono HB2.out.size)
  clear hb3 HB2 k2
  go_wp2_with ((with_reducible show wpList _ _ _ (Oper.mk _ (Op.store 26 _ _) _ _ _ _ :: _) _ _); refine storeB (k3) rfl rfl rfl rfl ?_)
  try simp only [Exit.inBlock, Exit.then]
  refine retcB (k3.row 16 _) rfl rfl rfl ⟨?_, below_setRow HB3.out (by omega) _⟩
  rw [mk_congr]
  intro j hj
  show f _ = f _
  have e1 : (j % 4 * 4 + j / 4) / 4 = j % 4 := by omega
  have e2 : (j % 4 * 4 + j / 4) % 4 = j / 4 := by omega
  congr 1
  first | omega | rw [e1, e2]
theorem turnedBack_any (f : Nat → Int) (w : World) :
    Calls Try.prog 295 #[.agg (mk 16 f)] w fun e w' => e = .returned (.agg (mk 16 (fun j => f (j % 4 * 4 + (3 - j / 4))))) ∧ Below w.heap.size w w' := by
  have z16 := zero16
  have K1 := (Blk.new w 16 f 26).alloc (.cells (mk 16 fun _ => 0) 26)
  have K2 := Blk.new (w.alloc (.cells (mk 16 f) 26)) 16 (fun _ => 0) 26
  have HB := Lib.hid (((Below.refl w.heap.size w).alloc (Nat.le_refl _) (.cells (mk 16 f) 26)).alloc (by simp) (.cells (mk 16 fun _ => 0) 26))
  simp only [World.size_alloc] at K2
  go_enter Try.func295, Try.ntmps295
  go_wp2_with ((with_reducible show wpList _ _ _ (Oper.mk _ (Op.load 26 _) _ _ _ _ :: _) _ _); refine loadB (K1) rfl rfl rfl ?_)
  refine (mirrored_any _ _).mono ?_
  rintro e w2 ⟨rfl, hb2⟩
  have k2 := K2.below hb2 (by simp)
  have HB2 : Hid (Below w.heap.size w w2) := HB.out.trans (hb2.mono HB.out.size)
  clear hb2 HB K1 K2
  go_wp2_with fail
  refine (transposed_any _ _).mono ?_
  rintro e w3 ⟨rfl, hb3⟩
  have k3 := k2.below hb3 k2.lt
  have HB3 : Hid (Below w.heap.size w w3) := HB2.out.trans (hb3.mono HB2.out.size)
  clear hb3 HB2 k2
  go_wp2_with ((with_reducible show wpList _ _ _ (Oper.mk _ (Op.store 26 _ _) _ _ _ _ :: _) _ _); refine storeB (k3) rfl rfl rfl rfl ?_)
  try simp only [Exit.inBlock, Exit.then]
  refine retcB (k3.row 16 _) rfl rfl rfl ⟨?_, below_setRow HB3.out (by omega) _⟩
  rw [mk_congr]
  intro j hj
  show f _ = f _
  have e1 : (j % 4 * 4 + j / 4) / 4 = j % 4 := by omega
  have e2 : (j % 4 * 4 + j / 4) % 4 = j / 4 := by omega
  congr 1
  first | omega | rw [e1, e2]
end Go.Proofs.Ytfjpdopljmilpaa
namespace Go.Proofs.Ytfjpdopljmilpaa
open Go.RowKit Plain

/-- What the table of views holds. -/
def viewCells : Array Value := #[.func (.func 291) #[] #[], .func (.func 291) #[] #[], .func (.func 292) #[] #[], .func (.func 292) #[] #[], .func (.func 293) #[] #[], .func (.func 293) #[] #[], .func (.func 294) #[] #[], .func (.func 295) #[] #[]]
theorem viewOne : viewCells.all (·.oneCell') = true := by simp [viewCells, Value.oneCell']
theorem sizeV : (Try.prog.info? 248).map (·.size) = some 8 := by kernel_rfl
theorem views_any (w : World) :
    Calls Try.prog 261 #[] w fun e w' => e = .returned (.agg viewCells) ∧ Below w.heap.size w w' := by
  go_enter Try.func261, Try.ntmps261
  go_wp2_with ((with_reducible show wpList _ _ _ (Oper.mk _ (Op.store 248 _ _) _ _ _ _ :: _) _ _); refine wpList_store_row rfl 248 _ _ rfl _ viewCells rfl rfl _ _ (heap_alloc_new _ _) sizeV rfl viewOne ?_)
  try simp only [Exit.inBlock, Exit.then]
  exact bodyPost_ret (v := .agg viewCells) (results_cell_row rfl _ _ _ 248 viewCells (0, 0) _ rfl (setRow_heap _ _ _ _ _ _ (heap_alloc_new _ _)) Try.underlying248 rfl sizeV) rfl ⟨rfl, below_setRow ((Below.refl _ _).alloc (Nat.le_refl _) _) (Nat.le_refl _) _⟩
theorem idxV0 (w : World) : (Instr.index 248 (.agg viewCells) (.int .i64 0)).run Try.prog w = .ok (.agg #[.func (.func 291) #[] #[], .func (.func 291) #[] #[]]) w := by kernel_rfl
theorem idxV1 (w : World) : (Instr.index 248 (.agg viewCells) (.int .i64 1)).run Try.prog w = .ok (.agg #[.func (.func 292) #[] #[], .func (.func 292) #[] #[]]) w := by kernel_rfl
theorem idxV2 (w : World) : (Instr.index 248 (.agg viewCells) (.int .i64 2)).run Try.prog w = .ok (.agg #[.func (.func 293) #[] #[], .func (.func 293) #[] #[]]) w := by kernel_rfl
theorem idxV3 (w : World) : (Instr.index 248 (.agg viewCells) (.int .i64 3)).run Try.prog w = .ok (.agg #[.func (.func 294) #[] #[], .func (.func 295) #[] #[]]) w := by kernel_rfl
end Go.Proofs.Ytfjpdopljmilpaa
namespace Go.Proofs.Ytfjpdopljmilpaa
open Go.RowKit Plain
attribute [local go_sem] store_new

/-- How a test of a board ends. -/
def VdPost (f : Nat → Int) (w : World) (e : Ending) (w' : World) : Prop :=
  ((Vd f ∧ e = .returned (.bool true)) ∨ (¬ Vd f ∧ e = .returned (.bool false))) ∧ Below w.heap.size w w'

set_option maxHeartbeats 400000 in
theorem l2Board_any (f : Nat → Int) (w : World) :
    Calls Try.prog 136 #[.agg (mk 16 f)] w (VdPost f w) := by
  go_enter Try.func136, Try.ntmps136
  go_wp2_with fail
  have K := Blk.new w 16 f 26
  have HB := Lib.hid ((Below.refl w.heap.size w).alloc (Nat.le_refl _) (.cells (mk 16 f) 26))
  generalize w.alloc (.cells (mk 16 f) 26) = w1 at *
  go_loopg [3] 4 (fun g s3 wx => ∃ r : Nat, r + g = 4 ∧ s3 = .int .i64 r ∧ Hid (∀ j, j < r * 4 → 0 ≤ f j ∧ f j ≤ 17) ∧ w1 = wx)
  case atStart => exact ⟨0, by omega, rfl, fun j hj => by omega, rfl⟩
  case round =>
    obtain ⟨r, hrg, rfl, HV, rfl⟩ := hrel
    cases gk with
    | zero =>
      have hr : ¬ ((r : Int) < 4) := by omega
      have HR : Hid (r = 4) := by show r = 4; omega
      clear hrg
      go_wp2_with fail
      go_ret
      exact ⟨.inl ⟨fun j hj => HV.out j (by rw [HR.out]; omega), rfl⟩, HB.out⟩
    | succ g =>
      have hr4 : (r : Int) < 4 := by omega
      go_wp2_with fail
      go_loopg [4] 4 (fun h s4 wx => ∃ c : Nat, c + h = 4 ∧ s4 = .int .i64 c ∧ Hid (∀ j, j < r * 4 + c → 0 ≤ f j ∧ f j ≤ 17) ∧ w1 = wx)
      case atStart => exact ⟨0, by omega, rfl, HV, rfl⟩
      case round =>
        obtain ⟨c, hch, rfl, HW, rfl⟩ := hrel
        cases gk with
        | zero =>
          have hc : ¬ ((c : Int) < 4) := by omega
          go_wp2_with fail
          go_roundg g
          case rel => exact ⟨r + 1, by omega, by go_num, fun j hj => HW.out j (by omega), rfl⟩
          case measure => omega
        | succ h =>
          have hc : (c : Int) < 4 := by omega
          have k1 := K.cell (i := r * 4 + c) (by omega)
          have hi : r * 4 + c < 16 := by omega
          by_cases hx : 0 ≤ f (r * 4 + c) ∧ f (r * 4 + c) ≤ 17
          · have HX : Hid (∀ j, j < r * 4 + (c + 1) → 0 ≤ f j ∧ f j ≤ 17) := by
              intro j hj
              by_cases e : j = r * 4 + c
              · rw [e]; exact hx
              · exact HW.out j (by omega)
            obtain ⟨x0, x1⟩ := hx
            generalize f (r * 4 + c) = x at k1 x0 x1
            go_wp2_with fail
            refine (l1In_yes x 0 17 _ x0 x1).mono ?_
            rintro e w' ⟨rfl, rfl⟩
            go_wp2_with fail
            go_roundg h
            case rel => exact ⟨c + 1, by omega, by go_num, HX, rfl⟩
            case measure => omega
          · have HN : Hid (¬ Vd f) := fun h => hx (h _ hi)
            have H := Lib.hid (show f (r * 4 + c) < 0 ∨ 17 < f (r * 4 + c) by omega)
            clear hx
            generalize f (r * 4 + c) = x at k1 H
            go_wp2_with fail
            refine (l1In_no x 0 17 _ H.out).mono ?_
            rintro e w' ⟨rfl, rfl⟩
            go_wp2_with fail
            try rw [Exit.noGoto_ret]
            go_ret
            exact ⟨.inr ⟨HN.out, rfl⟩, HB.out⟩

set_option maxHeartbeats 400000 in
theorem implBoard_any (f : Nat → Int) (w : World) :
    Calls Try.prog 147 #[.agg (mk 16 f)] w (VdPost f w) := by
  have z4 := zero4
  have iG := idxG
  have iR := idxR
  go_enter Try.func147, Try.ntmps147
  go_wp2_with ((with_reducible show wpList _ _ _ (Oper.mk _ (Op.load 23 _) _ _ _ _ :: _) _ _); refine loadG (Blk.new _ _ _ _) rfl rfl rfl ?_)
  have HB := Lib.hid ((Below.refl w.heap.size w).alloc (Nat.le_refl _) (.cells (mk 16 f) 26))
  generalize w.alloc (.cells (mk 16 f) 26) = w1 at *
  go_loopg [9] 4 (fun g s9 wx => ∃ r : Nat, r + g = 4 ∧ s9 = .int .i64 r ∧ Hid (∀ j, j < r * 4 → 0 ≤ f j ∧ f j ≤ 17) ∧ Hid (Below w.heap.size w wx))
  case atStart => exact ⟨0, by omega, rfl, fun j hj => by omega, HB⟩
  case round =>
    obtain ⟨r, hrg, rfl, HV, hb⟩ := hrel
    cases gk with
    | zero =>
      have hr : ¬ ((r : Int) < 4) := by omega
      have HR : Hid (r = 4) := by show r = 4; omega
      clear hrg
      go_wp2_with fail
      go_ret
      exact ⟨.inl ⟨fun j hj => HV.out j (by rw [HR.out]; omega), rfl⟩, hb.out⟩
    | succ g =>
      have hr4 : (r : Int) < 4 := by omega
      have hr5 : r < 4 := by omega
      go_wp2_with ((with_reducible show wpList _ _ _ (Oper.mk _ (Op.load 22 _) _ _ _ _ :: _) _ _); refine loadR (Blk.new _ _ _ _) rfl rfl rfl ?_)
      have HB2 : Hid (Below w.heap.size w (wr.alloc (.cells (mk 4 fun c => f (r * 4 + c)) 22))) := hb.out.alloc hb.out.size _
      generalize wr.alloc (.cells (mk 4 fun c => f (r * 4 + c)) 22) = w2 at *
      go_loopg [13] 4 (fun h s13 wx => ∃ c : Nat, c + h = 4 ∧ s13 = .int .i64 c ∧ Hid (∀ j, j < r * 4 + c → 0 ≤ f j ∧ f j ≤ 17) ∧ w2 = wx)
      case atStart => exact ⟨0, by omega, rfl, HV, rfl⟩
      case round =>
        obtain ⟨c, hch, rfl, HW, rfl⟩ := hrel
        cases gk with
        | zero =>
          have hc : ¬ ((c : Int) < 4) := by omega
          go_wp2_with fail
          go_roundg g
          case rel => exact ⟨r + 1, by omega, by go_num, fun j hj => HW.out j (by omega), HB2⟩
          case measure => omega
        | succ h =>
          have hc : (c : Int) < 4 := by omega
          have hc5 : c < 4 := by omega
          have hi : r * 4 + c < 16 := by omega
          by_cases hx : 0 ≤ f (r * 4 + c) ∧ f (r * 4 + c) ≤ 17
          · have HX : Hid (∀ j, j < r * 4 + (c + 1) → 0 ≤ f j ∧ f j ≤ 17) := by
              intro j hj
              by_cases e : j = r * 4 + c
              · rw [e]; exact hx
              · exact HW.out j (by omega)
            obtain ⟨x0, x1⟩ := hx
            by_cases h0 : f (r * 4 + c) = 0
            · have d0 : (f (r * 4 + c) != 0) = false := by simpa using h0
              clear h0
              go_wp2_with fail
              go_roundg h
              case rel => exact ⟨c + 1, by omega, by go_num, HX, rfl⟩
              case measure => omega
            · have d0 : (f (r * 4 + c) != 0) = true := by simpa using h0
              have x2 : 1 ≤ f (r * 4 + c) := by omega
              clear h0
              go_wp2_with fail
              refine (isTile_yes _ _ x2 x1).mono ?_
              rintro e w' ⟨rfl, rfl⟩
              go_wp2_with fail
              go_roundg h
              case rel => exact ⟨c + 1, by omega, by go_num, HX, rfl⟩
              case measure => omega
          · have HN : Hid (¬ Vd f) := fun h => hx (h _ hi)
            have H := Lib.hid (show f (r * 4 + c) < 1 ∨ 17 < f (r * 4 + c) by omega)
            have d0 : (f (r * 4 + c) != 0) = true := by simp; omega
            clear hx
            go_wp2_with fail
            refine (isTile_no _ _ H.out).mono ?_
            rintro e w' ⟨rfl, rfl⟩
            go_wp2_with fail
            try rw [Exit.noGoto_ret]
            go_ret
            exact ⟨.inr ⟨HN.out, rfl⟩, HB2.out⟩

theorem l2Board_yes (f : Nat → Int) (w : World) (h : Vd f) :
    Calls Try.prog 136 #[.agg (mk 16 f)] w fun e w' => e = .returned (.bool true) ∧ Below w.heap.size w w' :=
  (l2Board_any f w).mono fun _ _ ⟨h1, h2⟩ => ⟨h1.elim (·.2) (fun k => absurd h k.1), h2⟩
theorem l2Board_no (f : Nat → Int) (w : World) (h : ¬ Vd f) :
    Calls Try.prog 136 #[.agg (mk 16 f)] w fun e w' => e = .returned (.bool false) ∧ Below w.heap.size w w' :=
  (l2Board_any f w).mono fun _ _ ⟨h1, h2⟩ => ⟨h1.elim (fun k => absurd k.1 h) (·.2), h2⟩
theorem implBoard_yes (f : Nat → Int) (w : World) (h : Vd f) :
    Calls Try.prog 147 #[.agg (mk 16 f)] w fun e w' => e = .returned (.bool true) ∧ Below w.heap.size w w' :=
  (implBoard_any f w).mono fun _ _ ⟨h1, h2⟩ => ⟨h1.elim (·.2) (fun k => absurd h k.1), h2⟩
theorem implBoard_no (f : Nat → Int) (w : World) (h : ¬ Vd f) :
    Calls Try.prog 147 #[.agg (mk 16 f)] w fun e w' => e = .returned (.bool false) ∧ Below w.heap.size w w' :=
  (implBoard_any f w).mono fun _ _ ⟨h1, h2⟩ => ⟨h1.elim (fun k => absurd k.1 h) (·.2), h2⟩
end Go.Proofs.Ytfjpdopljmilpaa
namespace Go.Proofs.Ytfjpdopljmilpaa
open Go.RowKit Plain
section
variable {P : Program} {ops : Array Oper} {rest : List Oper} {o : Oper} {a : Act} {w : World} {Q : Exit → Act → World → Prop}
theorem wpList_load_guarded (hw : Region.wanted o (yielded ops a.tmps) = true) (ty : TypeId) (x : Operand) (ho : o.op = .load ty x) (b n : Nat) (f : Nat → Int) (t : TypeId) (d : TypeDesc)
    (hx : a.eval x = .pointer (some ⟨b, 0, none⟩)) (hg : Blk w b n f t)
    (hu : P.underlying ty = some d) (hd : d.isRow = true) (hi : (P.info? ty).map (·.size) = some n)
    (h : wpList P ops Q rest (a.put o.dst (.agg (mk n f))) w) : wpList P ops Q (o :: rest) a w :=
  wpList_step fun _ hK => by
    rw [if_pos hw]
    exact wp_load_row ty x ho b hx t _ _ d hg hu (by cases d <;> first | rfl | exact hd) (by rw [mk_size]; exact hi) (hK _ _ h)
end
theorem loadgB {ops : Array Oper} {rest : List Oper} {o : Oper} {a : Act} {w : World} {Q : Exit → Act → World → Prop} {x : Operand} {b : Nat} {f : Nat → Int} {t : TypeId}
    (hg : Blk w b 16 f t) (hw : Region.wanted o (yielded ops a.tmps) = true) (ho : o.op = .load 26 x) (hx : a.eval x = .pointer (some ⟨b, 0, none⟩))
    (h : wpList Try.prog ops Q rest (a.put o.dst (.agg (mk 16 f))) w) : wpList Try.prog ops Q (o :: rest) a w :=
  wpList_load_guarded hw _ x ho b 16 f t _ hx hg Try.underlying26 rfl sizeB h
theorem loadgC {ops : Array Oper} {rest : List Oper} {o : Oper} {a : Act} {w : World} {Q : Exit → Act → World → Prop} {x : Operand} {b : Nat} {f : Nat → Int} {t : TypeId}
    (hg : Blk w b 2 f t) (hw : Region.wanted o (yielded ops a.tmps) = true) (ho : o.op = .load 37 x) (hx : a.eval x = .pointer (some ⟨b, 0, none⟩))
    (h : wpList Try.prog ops Q rest (a.put o.dst (.agg (mk 2 f))) w) : wpList Try.prog ops Q (o :: rest) a w :=
  wpList_load_guarded hw _ x ho b 2 f t _ hx hg Try.underlying37 rfl sizeC h
end Go.Proofs.Ytfjpdopljmilpaa
namespace Go.Proofs.Ytfjpdopljmilpaa
open Go.RowKit Plain
theorem loadgR {ops : Array Oper} {rest : List Oper} {o : Oper} {a : Act} {w : World} {Q : Exit → Act → World → Prop} {x : Operand} {b : Nat} {f : Nat → Int} {t : TypeId}
    (hg : Blk w b 4 f t) (hw : Region.wanted o (yielded ops a.tmps) = true) (ho : o.op = .load 22 x) (hx : a.eval x = .pointer (some ⟨b, 0, none⟩))
    (h : wpList Try.prog ops Q rest (a.put o.dst (.agg (mk 4 f))) w) : wpList Try.prog ops Q (o :: rest) a w :=
  wpList_load_guarded hw _ x ho b 4 f t _ hx hg Try.underlying22 rfl sizeR h
end Go.Proofs.Ytfjpdopljmilpaa
namespace Go.Proofs.Ytfjpdopljmilpaa
open Go.RowKit Plain
attribute [local go_sem] store_new

set_option maxHeartbeats 400000 in
theorem toIntA4_any (f : Nat → Int) (w : World) :
    Calls Try.prog 16 #[.agg (mk 4 f)] w fun e w' => e = .returned (.agg (mk 4 f)) ∧ Below w.heap.size w w' := by
  have z4 := zero4
  have z2 := zero2
  go_enter Try.func16, Try.ntmps16
  go_wp2_with fail
  have K1 := ((Blk.new w 4 f 22).alloc (.cells (mk 4 fun _ => 0) 22)).alloc (.cells (mk 4 fun _ => 0) 22)
  have K2 := (Blk.new (w.alloc (.cells (mk 4 f) 22)) 4 (fun _ => 0) 22).alloc (.cells (mk 4 fun _ => 0) 22)
  have K3 := Blk.new ((w.alloc (.cells (mk 4 f) 22)).alloc (.cells (mk 4 fun _ => 0) 22)) 4 (fun _ => 0) 22
  have HB := Lib.hid ((((Below.refl w.heap.size w).alloc (Nat.le_refl _) (.cells (mk 4 f) 22)).alloc (by simp) (.cells (mk 4 fun _ => 0) 22)).alloc (by simp; omega) (.cells (mk 4 fun _ => 0) 22))
  simp only [World.size_alloc] at K1 K2 K3
  generalize ((w.alloc (.cells (mk 4 f) 22)).alloc (.cells (mk 4 fun _ => 0) 22)).alloc (.cells (mk 4 fun _ => 0) 22) = w1 at *
  go_loopg [4] 4 (fun g s4 wr => ∃ r : Nat, r + g = 4 ∧ s4 = .int .i64 r ∧ Blk wr w.heap.size 4 f 22 ∧ Blk wr (w.heap.size + 1) 4 (fun _ => 0) 22 ∧ Blk wr (w.heap.size + 1 + 1) 4 (upto f r) 22 ∧ Hid (Below w.heap.size w wr))
  case atStart => exact ⟨0, by omega, rfl, K1, K2, K3.congr fun j _ => (upto_zero f j).symm, HB⟩
  case round =>
    obtain ⟨r, hrg, rfl, k1, k2, k3, hb⟩ := hrel
    cases gk with
    | zero =>
      have hr : ¬ ((r : Int) < 4) := by omega
      have HR : Hid (r = 4) := by show r = 4; omega
      clear hrg
      go_wp2_with (first | ((with_reducible show wpList _ _ _ (Oper.mk _ (Op.load 22 _) _ _ _ _ :: _) _ _); refine loadR (k3) rfl rfl rfl ?_) | ((with_reducible show wpList _ _ _ (Oper.mk _ (Op.store 22 _ _) _ _ _ _ :: _) _ _); refine storeR (k2) rfl rfl rfl rfl ?_))
      try simp only [Exit.inBlock, Exit.then]
      refine retcR (k2.row 4 _) rfl rfl rfl ⟨?_, below_setRow hb.out (by omega) _⟩
      rw [HR.out, mk_congr (g := f) (fun j hj => upto_all hj)]
    | succ g =>
      have hr4 : (r : Int) < 4 := by omega
      have c1 := k1.cell (i := r) (by omega)
      have c3 := k3.cell (i := r) (by omega)
      have f3 := k3.free r
      go_wp2_with fail
      go_roundg g
      case rel =>
        exact ⟨r + 1, by omega, by go_num, k1.setOther _ _ (by dsimp only; omega), k2.setOther _ _ (by dsimp only; omega), (k3.set (by omega) _).congr fun j _ => upto_step f r j, hb.out.setCell (by dsimp only; omega) _⟩
      case measure => omega

set_option maxHeartbeats 400000 in
theorem toIntA4A4_any (f : Nat → Int) (w : World) :
    Calls Try.prog 146 #[.agg (mk 16 f)] w fun e w' => e = .returned (.agg (mk 16 f)) ∧ Below w.heap.size w w' := by
  have z16 := zero16
  go_enter Try.func146, Try.ntmps146
  go_wp2_with fail
  have K1 := ((Blk.new w 16 f 23).alloc (.cells (mk 16 fun _ => 0) 23)).alloc (.cells (mk 16 fun _ => 0) 23)
  have K2 := (Blk.new (w.alloc (.cells (mk 16 f) 23)) 16 (fun _ => 0) 23).alloc (.cells (mk 16 fun _ => 0) 23)
  have K3 := Blk.new ((w.alloc (.cells (mk 16 f) 23)).alloc (.cells (mk 16 fun _ => 0) 23)) 16 (fun _ => 0) 23
  have HB := Lib.hid ((((Below.refl w.heap.size w).alloc (Nat.le_refl _) (.cells (mk 16 f) 23)).alloc (by simp) (.cells (mk 16 fun _ => 0) 23)).alloc (by simp; omega) (.cells (mk 16 fun _ => 0) 23))
  simp only [World.size_alloc] at K1 K2 K3
  generalize ((w.alloc (.cells (mk 16 f) 23)).alloc (.cells (mk 16 fun _ => 0) 23)).alloc (.cells (mk 16 fun _ => 0) 23) = w1 at *
  go_loopg [4] 4 (fun g s4 wr => ∃ r : Nat, r + g = 4 ∧ s4 = .int .i64 r ∧ Blk wr w.heap.size 16 f 23 ∧ Blk wr (w.heap.size + 1) 16 (fun _ => 0) 23 ∧ Blk wr (w.heap.size + 1 + 1) 16 (upto f (r * 4)) 23 ∧ Hid (Below w.heap.size w wr))
  case atStart => exact ⟨0, by omega, rfl, K1, K2, K3.congr fun j _ => (upto_zero f j).symm, HB⟩
  case round =>
    obtain ⟨r, hrg, rfl, k1, k2, k3, hb⟩ := hrel
    cases gk with
    | zero =>
      have hr : ¬ ((r : Int) < 4) := by omega
      have HR : Hid (r = 4) := by show r = 4; omega
      clear hrg
      go_wp2_with (first | ((with_reducible show wpList _ _ _ (Oper.mk _ (Op.load 23 _) _ _ _ _ :: _) _ _); refine loadG (k3) rfl rfl rfl ?_) | ((with_reducible show wpList _ _ _ (Oper.mk _ (Op.store 23 _ _) _ _ _ _ :: _) _ _); refine storeG (k2) rfl rfl rfl rfl ?_))
      try simp only [Exit.inBlock, Exit.then]
      refine retcG (k2.row 16 _) rfl rfl rfl ⟨?_, below_setRow hb.out (by omega) _⟩
      rw [HR.out, mk_congr (g := f) (fun j hj => upto_all hj)]
    | succ g =>
      have hr4 : (r : Int) < 4 := by omega
      go_wp2_with ((with_reducible show wpList _ _ _ (Oper.mk _ (Op.load 22 _) _ _ _ _ :: _) _ _); refine loadPR (k1) (by omega) rfl rfl rfl ?_)
      refine (toIntA4_any _ _).mono ?_
      rintro e w2 ⟨rfl, hb2⟩
      have l1 := k1.lt
      have l2 := k2.lt
      have l3 := k3.lt
      have k1 := k1.below hb2 l1
      have k2 := k2.below hb2 l2
      have k3 := k3.below hb2 l3
      have hb3 : Hid (Below w.heap.size w w2) := hb.out.trans (hb2.mono hb.out.size)
      clear hb2
      go_wp2_with ((with_reducible show wpList _ _ _ (Oper.mk _ (Op.store 22 _ _) _ _ _ _ :: _) _ _); refine storePR (k3) (by omega) rfl rfl rfl rfl ?_)
      go_roundg g
      case rel =>
        exact ⟨r + 1, by omega, by go_num, k1.rowOther _ _ (by omega), k2.rowOther _ _ (by omega), (k3.row 16 _).congr fun j _ => upto_row f r 4 j, below_setRow hb3.out (by omega) _⟩
      case measure => omega

set_option maxHeartbeats 400000 in
theorem toBoard_any (f : Nat → Int) (w : World) :
    Calls Try.prog 15 #[.agg (mk 16 f)] w fun e w' => e = .returned (.agg (mk 16 f)) ∧ Below w.heap.size w w' := by
  have z16 := zero16
  go_enter Try.func15, Try.ntmps15
  go_wp2_with ((with_reducible show wpList _ _ _ (Oper.mk _ (Op.load 23 _) _ _ _ _ :: _) _ _); refine loadG (((Blk.new _ _ _ _).alloc _).alloc _) rfl rfl rfl ?_)
  refine (toIntA4A4_any _ _).mono ?_
  rintro e w2 ⟨rfl, hb2⟩
  have K2 := (Blk.new (w.alloc (.cells (mk 16 f) 25)) 16 (fun _ => 0) 26).alloc (.cells (mk 16 fun _ => 0) 26)
  have K3 := Blk.new ((w.alloc (.cells (mk 16 f) 25)).alloc (.cells (mk 16 fun _ => 0) 26)) 16 (fun _ => 0) 26
  have l2 := K2.lt
  have l3 := K3.lt
  have k2 := K2.below hb2 l2
  have k3 := K3.below hb2 l3
  have hb : Hid (Below w.heap.size w w2) := ((((Below.refl w.heap.size w).alloc (Nat.le_refl _) (.cells (mk 16 f) 25)).alloc (by simp) (.cells (mk 16 fun _ => 0) 26)).alloc (by simp; omega) (.cells (mk 16 fun _ => 0) 26)).trans (hb2.mono (by simp; omega))
  simp only [World.size_alloc] at k2 k3
  clear K2 K3 hb2 l2 l3
  go_wp2_with (first | ((with_reducible show wpList _ _ _ (Oper.mk _ (Op.load 26 _) _ _ _ _ :: _) _ _); refine loadB (k3.row 16 _) rfl rfl rfl ?_) | ((with_reducible show wpList _ _ _ (Oper.mk _ (Op.store 23 _ _) _ _ _ _ :: _) _ _); refine storeG (k3) rfl rfl rfl rfl ?_) | ((with_reducible show wpList _ _ _ (Oper.mk _ (Op.store 26 _ _) _ _ _ _ :: _) _ _); refine storeB (k2.rowOther _ _ (by omega)) rfl rfl rfl rfl ?_))
  try simp only [Exit.inBlock, Exit.then]
  exact retcB ((k2.rowOther _ _ (by omega)).row 16 _) rfl rfl rfl ⟨rfl, below_setRow (below_setRow hb.out (by omega) _) (by omega) _⟩

set_option maxHeartbeats 400000 in
theorem eqIntA2_same (f : Nat → Int) (w : World) :
    Calls Try.prog 23 #[.agg (mk 2 f), .agg (mk 2 f)] w fun e w' => e = .returned (.bool true) ∧ Below w.heap.size w w' := by
  go_enter Try.func23, Try.ntmps23
  go_wp2_with fail
  have K1 := (Blk.new w 2 f 37).alloc (.cells (mk 2 f) 37)
  have K2 := Blk.new (w.alloc (.cells (mk 2 f) 37)) 2 f 37
  have HB := Lib.hid (((Below.refl w.heap.size w).alloc (Nat.le_refl _) (.cells (mk 2 f) 37)).alloc (by simp) (.cells (mk 2 f) 37))
  simp only [World.size_alloc] at K1 K2
  generalize (w.alloc (.cells (mk 2 f) 37)).alloc (.cells (mk 2 f) 37) = w1 at *
  go_loopg [5] 2 (fun g s5 wr => ∃ r : Nat, r + g = 2 ∧ s5 = .int .i64 r ∧ Blk wr w.heap.size 2 f 37 ∧ Blk wr (w.heap.size + 1) 2 f 37 ∧ Hid (Below w.heap.size w wr))
  case atStart => exact ⟨0, by omega, rfl, K1, K2, HB⟩
  case round =>
    obtain ⟨r, hrg, rfl, k1, k2, hb⟩ := hrel
    cases gk with
    | zero =>
      have hr : ¬ ((r : Int) < 2) := by omega
      clear hrg
      go_wp2_with fail
      go_ret
      exact ⟨rfl, hb.out⟩
    | succ g =>
      have hr0 : (0 : Int) ≤ (r : Int) := by omega
      have hr4 : (r : Int) < 2 := by omega
      have c1 := k1.cell (i := r) (by omega)
      have c2 := k2.cell (i := r) (by omega)
      generalize f r = x at c1 c2
      go_wp2_with fail
      go_quiet (fail)
      go_wp2_with fail
      go_roundg g
      case rel => exact ⟨r + 1, by omega, by go_num, k1.drewN _, k2.drewN _, below_drewN hb.out _⟩
      case measure => omega
set_option maxHeartbeats 400000 in
theorem eqIntA4_same (f : Nat → Int) (w : World) :
    Calls Try.prog 274 #[.agg (mk 4 f), .agg (mk 4 f)] w fun e w' => e = .returned (.bool true) ∧ Below w.heap.size w w' := by
  go_enter Try.func274, Try.ntmps274
  go_wp2_with fail
  have K1 := (Blk.new w 4 f 22).alloc (.cells (mk 4 f) 22)
  have K2 := Blk.new (w.alloc (.cells (mk 4 f) 22)) 4 f 22
  have HB := Lib.hid (((Below.refl w.heap.size w).alloc (Nat.le_refl _) (.cells (mk 4 f) 22)).alloc (by simp) (.cells (mk 4 f) 22))
  simp only [World.size_alloc] at K1 K2
  generalize (w.alloc (.cells (mk 4 f) 22)).alloc (.cells (mk 4 f) 22) = w1 at *
  go_loopg [5] 4 (fun g s5 wr => ∃ r : Nat, r + g = 4 ∧ s5 = .int .i64 r ∧ Blk wr w.heap.size 4 f 22 ∧ Blk wr (w.heap.size + 1) 4 f 22 ∧ Hid (Below w.heap.size w wr))
  case atStart => exact ⟨0, by omega, rfl, K1, K2, HB⟩
  case round =>
    obtain ⟨r, hrg, rfl, k1, k2, hb⟩ := hrel
    cases gk with
    | zero =>
      have hr : ¬ ((r : Int) < 4) := by omega
      clear hrg
      go_wp2_with fail
      go_ret
      exact ⟨rfl, hb.out⟩
    | succ g =>
      have hr0 : (0 : Int) ≤ (r : Int) := by omega
      have hr4 : (r : Int) < 4 := by omega
      have c1 := k1.cell (i := r) (by omega)
      have c2 := k2.cell (i := r) (by omega)
      generalize f r = x at c1 c2
      go_wp2_with fail
      go_quiet (fail)
      go_wp2_with fail
      go_roundg g
      case rel => exact ⟨r + 1, by omega, by go_num, k1.drewN _, k2.drewN _, below_drewN hb.out _⟩
      case measure => omega
set_option maxHeartbeats 400000 in
theorem eqIntA4A4_same (f : Nat → Int) (w : World) :
    Calls Try.prog 240 #[.agg (mk 16 f), .agg (mk 16 f)] w fun e w' => e = .returned (.bool true) ∧ Below w.heap.size w w' := by
  go_enter Try.func240, Try.ntmps240
  go_wp2_with fail
  have K1 := (Blk.new w 16 f 23).alloc (.cells (mk 16 f) 23)
  have K2 := Blk.new (w.alloc (.cells (mk 16 f) 23)) 16 f 23
  have HB := Lib.hid (((Below.refl w.heap.size w).alloc (Nat.le_refl _) (.cells (mk 16 f) 23)).alloc (by simp) (.cells (mk 16 f) 23))
  simp only [World.size_alloc] at K1 K2
  generalize (w.alloc (.cells (mk 16 f) 23)).alloc (.cells (mk 16 f) 23) = w1 at *
  go_loopg [5] 4 (fun g s5 wr => ∃ r : Nat, r + g = 4 ∧ s5 = .int .i64 r ∧ Blk wr w.heap.size 16 f 23 ∧ Blk wr (w.heap.size + 1) 16 f 23 ∧ Hid (Below w.heap.size w wr))
  case atStart => exact ⟨0, by omega, rfl, K1, K2, HB⟩
  case round =>
    obtain ⟨r, hrg, rfl, k1, k2, hb⟩ := hrel
    cases gk with
    | zero =>
      have hr : ¬ ((r : Int) < 4) := by omega
      clear hrg
      go_wp2_with fail
      go_ret
      exact ⟨rfl, hb.out⟩
    | succ g =>
      have hr0 : (0 : Int) ≤ (r : Int) := by omega
      have hr4 : (r : Int) < 4 := by omega
      have a0 := k1.cell (i := r * 4) (by omega)
      have a1 := k1.cell (i := r * 4 + 1) (by omega)
      have a2 := k1.cell (i := r * 4 + 2) (by omega)
      have a3 := k1.cell (i := r * 4 + 3) (by omega)
      have b0 := k2.cell (i := r * 4) (by omega)
      have b1 := k2.cell (i := r * 4 + 1) (by omega)
      have b2 := k2.cell (i := r * 4 + 2) (by omega)
      have b3 := k2.cell (i := r * 4 + 3) (by omega)
      have e4 : (#[.int .i64 (f (r * 4)), .int .i64 (f (r * 4 + 1)), .int .i64 (f (r * 4 + 2)), .int .i64 (f (r * 4 + 3))] : Array Value) = mk 4 (fun c => f (r * 4 + c)) := rfl
      go_wp2_with fail
      go_region_with ((go_at_call 274; refine (eqIntA4_same _ _).mono ?_; rintro e w2 ⟨rfl, hb2⟩))
      all_goals
        have l1 := k1.lt
        have l2 := k2.lt
        have k1 := k1.drew.below hb2 l1
        have k2 := k2.drew.below hb2 l2
        have hb3 : Hid (Below w.heap.size w w2) := hb.out.drew.trans (hb2.mono hb.out.size)
        clear hb2 a0 a1 a2 a3 b0 b1 b2 b3 e4
        go_wp2_with fail
        go_roundg g
        case rel => exact ⟨r + 1, by omega, by go_num, k1, k2, hb3⟩
        case measure => omega

theorem eqBoard_same (f : Nat → Int) (w : World) :
    Calls Try.prog 152 #[.agg (mk 16 f), .agg (mk 16 f)] w fun e w' => e = .returned (.bool true) ∧ Below w.heap.size w w' := by
  have K1 := (Blk.new w 16 f 26).alloc (.cells (mk 16 f) 26)
  have K2 := Blk.new (w.alloc (.cells (mk 16 f) 26)) 16 f 26
  simp only [World.size_alloc] at K2
  go_enter Try.func152, Try.ntmps152
  go_wp2_with (first | ((with_reducible show wpList _ _ _ (Oper.mk _ (Op.load 23 _) _ _ _ _ :: _) _ _); refine loadG (K1) rfl rfl rfl ?_) | ((with_reducible show wpList _ _ _ (Oper.mk _ (Op.load 23 _) _ _ _ _ :: _) _ _); refine loadG (K2) rfl rfl rfl ?_))
  refine (eqIntA4A4_same _ _).mono ?_
  rintro e w2 ⟨rfl, hb2⟩
  have hb : Hid (Below w.heap.size w w2) := (((Below.refl w.heap.size w).alloc (Nat.le_refl _) (.cells (mk 16 f) 26)).alloc (by simp) (.cells (mk 16 f) 26)).trans (hb2.mono (by simp; omega))
  clear hb2
  go_wp2_with fail
  go_ret
  exact ⟨rfl, hb.out⟩
end Go.Proofs.Ytfjpdopljmilpaa
namespace Go.Proofs.Ytfjpdopljmilpaa
open Go.ChangeShapes Go.WideShapes Go.ChangeAt Go.RowKit

section
variable {H : Type} {enc : TypeId × Value → H} {P : Program} {w : World} {base : Nat} {spare : Nat → Bool} {held : Bool}
theorem trod_int_at {fuel : Nat} {t : TypeId} {c : List Value} {x : DataW H × List MemPlace} (ht : P.underlying t = some (.int .i64)) (h : DataW.trod enc P w base spare held fuel t c = some x) :
    ∃ n : Int, c = [.int .i64 n] ∧ (Lit.int .i64 n).wf = true := by
  obtain ⟨n, e, _, hw⟩ := DataW.trod_int ht h
  exact ⟨n, e, hw⟩
/-- An array of integers. -/
theorem trod_ints {fuel n : Nat} {t e : TypeId} {cs : List Value} {x : DataW H × List MemPlace} (ht : P.underlying t = some (.array n e)) (he : P.underlying e = some (.int .i64)) (h1 : P.cellsOf e = 1)
    (h : DataW.trod enc P w base spare held fuel t cs = some x) : ∀ i, i < n → ∃ z : Int, cs[i]? = some (.int .i64 z) ∧ (Lit.int .i64 z).wf = true := by
  obtain ⟨xs, m, _, _, hl, hxl, hg⟩ := DataW.trod_array ht h
  intro i hi
  have h2 := hg i hi
  rw [h1, Nat.mul_one, List.getElem?_eq_getElem (by omega)] at h2
  obtain ⟨z, hz, hw⟩ := trod_int_at he h2
  refine ⟨z, ?_, hw⟩
  have h3 : ((cs.drop i).take 1)[0]? = some (.int .i64 z) := by rw [hz]; rfl
  simpa using h3
/-- An array of arrays of integers. -/
theorem trod_rows {fuel n m : Nat} {t e i : TypeId} {cs : List Value} {x : DataW H × List MemPlace} (ht : P.underlying t = some (.array n e)) (he : P.underlying e = some (.array m i)) (hi : P.underlying i = some (.int .i64))
    (hm : P.cellsOf e = m) (h1 : P.cellsOf i = 1) (h : DataW.trod enc P w base spare held fuel t cs = some x) : ∀ r c, r < n → c < m → ∃ z : Int, cs[r * m + c]? = some (.int .i64 z) ∧ (Lit.int .i64 z).wf = true := by
  obtain ⟨xs, k, _, _, hl, hxl, hg⟩ := DataW.trod_array ht h
  intro r c hr hc
  have h2 := hg r hr
  rw [hm, List.getElem?_eq_getElem (by omega)] at h2
  obtain ⟨z, hz, hw⟩ := trod_ints he hi h1 h2 c hc
  refine ⟨z, ?_, hw⟩
  rw [List.getElem?_take, if_pos hc, List.getElem?_drop] at hz
  exact hz
end

/-- The numbers of a row of cells. -/
def nums (cs : Array Value) : Nat → Int := fun i => match cs[i]? with | some (.int _ z) => z | _ => 0
theorem nums_mk {n : Nat} {cs : Array Value} (hs : cs.size = n) (h : ∀ i, i < n → ∃ z : Int, cs[i]? = some (.int .i64 z) ∧ (Lit.int .i64 z).wf = true) :
    cs = mk n (nums cs) ∧ ∀ i, i < n → (Lit.int .i64 (nums cs i)).wf = true := by
  refine ⟨mk_ext hs fun i hi => ?_, fun i hi => ?_⟩
  · obtain ⟨z, hz, _⟩ := h i hi
    simp [nums, hz]
  · obtain ⟨z, hz, hw⟩ := h i hi
    simpa [nums, hz] using hw

theorem cellsK : Try.prog.cellsOf 25 = 16 := by kernel_rfl
theorem cellsG : Try.prog.cellsOf 23 = 16 := by kernel_rfl
theorem cellsR : Try.prog.cellsOf 22 = 4 := by kernel_rfl
theorem cellsC : Try.prog.cellsOf 37 = 2 := by kernel_rfl
theorem cellsI : Try.prog.cellsOf 3 = 1 := by kernel_rfl
section
variable {H : Type} {enc : TypeId × Value → H} {P : Program} {w : World} {base : Nat} {spare : Nat → Bool} {held : Bool}
theorem open_board_at {t g e i : TypeId} {f0 : Field} (ht : P.underlying t = some (.struct #[f0])) (ho : f0.offset = 0) (hg : f0.type = g) (hgu : P.underlying g = some (.array 4 e)) (heu : P.underlying e = some (.array 4 i))
    (hiu : P.underlying i = some (.int .i64)) (ct : P.cellsOf t = 16) (cg : P.cellsOf g = 16) (ce : P.cellsOf e = 4) (ci : P.cellsOf i = 1)
    {r : Reach} {b0 : Nat} {v : Value} {d : DataW H} {p : List MemPlace} (hv : Value.okWide P w r b0 t v) (h : DataW.Trod enc P w base spare held t v d p) :
    ∃ f : Nat → Int, v = .agg (mk 16 f) ∧ ∀ i, i < 16 → (Lit.int .i64 (f i)).wf = true := by
  obtain ⟨cs, rfl, hsz⟩ := okWide_struct ht hv
  rw [ct] at hsz
  obtain ⟨fuel, hf⟩ := h
  obtain ⟨xs, n, _, _, _, hl, hq⟩ := DataW.trod_struct ht hf
  have h0 := hq 0 f0 rfl
  have hl2 : xs.length = 1 := hl
  rw [List.getElem?_eq_getElem (by omega), ho, hg, cg] at h0
  have hr := trod_rows hgu heu hiu ce ci h0
  have hall : ∀ i, i < 16 → ∃ z : Int, cs[i]? = some (.int .i64 z) ∧ (Lit.int .i64 z).wf = true := by
    intro i hi
    obtain ⟨z, hz, hw⟩ := hr (i / 4) (i % 4) (by omega) (by omega)
    refine ⟨z, ?_, hw⟩
    rw [show i / 4 * 4 + i % 4 = i by omega, List.getElem?_take, if_pos hi] at hz
    simpa [Value.cells] using hz
  obtain ⟨h1, h2⟩ := nums_mk hsz hall
  exact ⟨nums cs, congrArg Value.agg h1, h2⟩
theorem open_ints_at {t e : TypeId} {n : Nat} (ht : P.underlying t = some (.array n e)) (he : P.underlying e = some (.int .i64)) (ct : P.cellsOf t = n) (ce : P.cellsOf e = 1)
    {r : Reach} {b0 : Nat} {v : Value} {d : DataW H} {p : List MemPlace} (hv : Value.okWide P w r b0 t v) (h : DataW.Trod enc P w base spare held t v d p) :
    ∃ f : Nat → Int, v = .agg (mk n f) ∧ ∀ i, i < n → (Lit.int .i64 (f i)).wf = true := by
  obtain ⟨cs, rfl, hsz, _⟩ : ∃ cs, v = .agg cs ∧ cs.size = P.cellsOf t ∧ Row.okWide P w r b0 t cs := by
    simpa [Value.okWide, ht] using hv
  rw [ct] at hsz
  obtain ⟨fuel, hf⟩ := h
  have hall := trod_ints ht he ce hf
  obtain ⟨h1, h2⟩ := nums_mk hsz (fun i hi => by simpa [Value.cells] using hall i hi)
  exact ⟨nums cs, congrArg Value.agg h1, h2⟩
end
end Go.Proofs.Ytfjpdopljmilpaa
namespace Go.Proofs.Ytfjpdopljmilpaa
open Go.RowKit Plain
section
variable {P : Program}
theorem exec_load_blk {o : Oper} {ev : Operand → Value} {w : World} {b n : Nat} {f : Nat → Int} {t : TypeId} {d : TypeDesc} (ty : TypeId) (x : Operand) (ho : o.op = .load ty x)
    (hx : ev x = .pointer (some ⟨b, 0, none⟩)) (hg : Blk w b n f t) (hu : P.underlying ty = some d) (hd : d.isRow = true) (hi : (P.info? ty).map (·.size) = some n) :
    (execOp ev o).run P w = .ok (.value (.agg (mk n f))) w := by
  unfold execOp
  simp only [ho, hx, Instr.loadAt, Instr.sureAddr, Sem.run_bind, Sem.run_pure, Result.andThen_ok, run_load_blk hg hu hd hi]
end
theorem execB {o : Oper} {ev : Operand → Value} {w : World} {b : Nat} {f : Nat → Int} {t : TypeId} {x : Operand} (hg : Blk w b 16 f t) (ho : o.op = .load 26 x) (hx : ev x = .pointer (some ⟨b, 0, none⟩)) :
    (execOp ev o).run Try.prog w = .ok (.value (.agg (mk 16 f))) w := exec_load_blk _ x ho hx hg Try.underlying26 rfl sizeB
theorem execC {o : Oper} {ev : Operand → Value} {w : World} {b : Nat} {f : Nat → Int} {t : TypeId} {x : Operand} (hg : Blk w b 2 f t) (ho : o.op = .load 37 x) (hx : ev x = .pointer (some ⟨b, 0, none⟩)) :
    (execOp ev o).run Try.prog w = .ok (.value (.agg (mk 2 f))) w := exec_load_blk _ x ho hx hg Try.underlying37 rfl sizeC
end Go.Proofs.Ytfjpdopljmilpaa
namespace Go.Proofs.Ytfjpdopljmilpaa.Dr
open Go.RowKit

structure Below (B : Nat) (w w' : World) : Prop where
  low : Go.RowKit.Below B w w'
  dr : w.drawn ≤ w'.drawn
theorem Below.refl (B : Nat) (w : World) : Below B w w := ⟨Go.RowKit.Below.refl B w, Nat.le_refl _⟩
theorem Below.size {B : Nat} {w w' : World} (h : Below B w w') : w.heap.size ≤ w'.heap.size := h.low.size
theorem Below.trans {B : Nat} {a b c : World} (h : Below B a b) (k : Below B b c) : Below B a c := ⟨h.low.trans k.low, Nat.le_trans h.dr k.dr⟩
theorem Below.mono {B B' : Nat} {w w' : World} (h : Below B w w') (hB : B' ≤ B) : Below B' w w' := ⟨h.low.mono hB, h.dr⟩
theorem Below.alloc {B : Nat} {a w : World} (h : Below B a w) (hB : B ≤ w.heap.size) (o : Obj) : Below B a (w.alloc o) := ⟨h.low.alloc hB o, h.dr⟩
theorem Below.drew {B : Nat} {a w : World} (h : Below B a w) : Below B a w.drew := ⟨h.low.drew, Nat.le_succ_of_le h.dr⟩
/-- Such a call is a growth, draws ahead of it. -/
theorem Below.grow {w w' : World} (h : Below w.heap.size w w') : ∃ q os, w' = Go.Sort.grow (w.drewN q) os := by
  obtain ⟨⟨h1, h2, h3, h4, h5⟩, h6⟩ := h
  refine ⟨w'.drawn - w.drawn, w'.heap.extract w.heap.size w'.heap.size, ?_⟩
  have hh : w'.heap = w.heap ++ w'.heap.extract w.heap.size w'.heap.size := by
    apply Array.ext_getElem?
    intro k
    by_cases hk : k < w.heap.size
    · rw [h5 k hk, Array.getElem?_append_left hk]
    · rw [Array.getElem?_append_right (by omega), Array.getElem?_extract]
      by_cases hk2 : k < w'.heap.size
      · rw [if_pos (by omega)]; congr 1; omega
      · rw [if_neg (by omega), Array.getElem?_eq_none (by omega)]
  have hd : w'.drawn = w.drawn + (w'.drawn - w.drawn) := by omega
  obtain ⟨a1, a2, a3, a4, a5⟩ := w
  obtain ⟨b1, b2, b3, b4, b5⟩ := w'
  simp only at h1 h2 h3 hh hd
  subst h1 h2 h3
  simp only [Go.Sort.grow, World.drewN]
  rw [← hh, ← hd]
end Go.Proofs.Ytfjpdopljmilpaa.Dr
namespace Go.Proofs.Ytfjpdopljmilpaa
theorem Blk.bew {B b n : Nat} {w w' : World} {f : Nat → Int} {t : TypeId} (h : Blk w b n f t) (hb : Dr.Below B w w') (hB : b < B) : Blk w' b n f t := h.below hb.low hB
end Go.Proofs.Ytfjpdopljmilpaa
namespace Go.Proofs.Ytfjpdopljmilpaa
open Go.RowKit Plain
attribute [local go_sem] store_new

/-- The slice value v owns a row of n cells, told by their numbers, in blocks from base on. -/
def OwnsCells (w : World) (base : Nat) (v : Value) (n : Nat) (xs : List Int) : Prop := w.ownsRow base 37 2 v n (xs.map (Value.int .i64))
theorem infoCell : (Try.prog.info? 37).map (fun i => (i.zero, i.size, i.bytes)) = some (some (.agg #[.int .i64 0, .int .i64 0]), 2, 16) := by kernel_rfl
theorem Blk.grown {w w' : World} {b n : Nat} {f : Nat → Int} {t : TypeId} {row : Option Nat} (h : Blk w b n f t) (hg : w.grownBy w' row) (hne : some b ≠ row) : Blk w' b n f t := (hg.block b h.lt hne).trans h

theorem ownsRow_wide {w : World} {b b' size n : Nat} {e : TypeId} {v : Value} {xs : List Value} (h : w.ownsRow b e size v n xs) (hb : b' ≤ b) : w.ownsRow b' e size v n xs := by
  refine ⟨h.1, ?_⟩
  rcases h.2 with hn | ⟨g, cap, cur, rfl, hg, rest⟩
  · exact .inl hn
  · exact .inr ⟨g, cap, cur, rfl, by omega, rest⟩
/-- The two numbers of a cell, laid in a new block, lie there. -/
theorem cell_two_new (w : World) (x y : Value) (t : TypeId) : ∀ j u, [x, y][j]? = some u → (w.alloc (.cells #[x, y] t)).cell? ((⟨w.heap.size, 0, none⟩ : Addr).add j) = some u := by
  intro j u hj
  have hh := heap_alloc_new w (.cells #[x, y] t)
  match j, hj with
  | 0, hj => simp at hj; subst hj; exact cell_of_row _ _ _ _ _ _ hh
  | 1, hj => simp at hj; subst hj; exact cell_of_row _ _ _ _ _ _ hh
  | n + 2, hj => simp at hj

set_option maxHeartbeats 1000000 in
theorem l2Empty_any (f : Nat → Int) (w : World) :
    Calls Try.prog 156 #[.agg (mk 16 f)] w fun e w' => ∃ g cap, e = .returned (.slice (some ⟨g, 0, none⟩) (empN f 16) cap) ∧
      OwnsCells w' w.heap.size (.slice (some ⟨g, 0, none⟩) (empN f 16) cap) (empN f 16) (empL f 16) ∧ Below w.heap.size w w' := by
  obtain ⟨i0, hi, hz0, hz1, hz2⟩ := info_parts infoCell
  have K1 := (Blk.new w 16 f 26).alloc (.cells #[] 37)
  have HB := Lib.hid (((Below.refl w.heap.size w).alloc (Nat.le_refl _) (.cells (mk 16 f) 26)).alloc (by simp) (.cells #[] 37))
  have HO : OwnsCells ((w.alloc (.cells (mk 16 f) 26)).alloc (.cells #[] 37)) (w.heap.size + 1) (.slice (some ⟨w.heap.size + 1, 0, none⟩) 0 0) 0 [] := by
    have := World.ownsRow_made (base := w.heap.size + 1) (e := 37) (size := 2) (w.alloc (.cells (mk 16 f) 26)) #[] 0 (by simp) (by decide) rfl
    simp only [World.size_alloc] at this
    exact this
  go_enter Try.func156, Try.ntmps156
  go_wp2_with fail
  go_loopg [3, 4] 4 (fun g s3 s4 wr => ∃ (r : Nat) (v : Value), r + g = 4 ∧ s4 = .int .i64 r ∧ v = s3 ∧ (∃ gg cap, v = .slice (some ⟨gg, 0, none⟩) (empN f (r * 4)) cap) ∧ OwnsCells wr (w.heap.size + 1) v (empN f (r * 4)) (empL f (r * 4)) ∧ Blk wr w.heap.size 16 f 26 ∧ Hid (Below w.heap.size w wr))
  case atStart => exact ⟨0, _, by omega, rfl, rfl, ⟨_, _, rfl⟩, HO, K1, HB⟩
  case round =>
    obtain ⟨r, v, hrg, rfl, rfl, hv, ho, k1, hb⟩ := hrel
    cases gk with
    | zero =>
      have hr : ¬ ((r : Int) < 4) := by omega
      obtain rfl : r = 4 := by omega
      clear hrg hr
      obtain ⟨gg, cap, rfl⟩ := hv
      go_wp2_with fail
      go_ret
      exact ⟨gg, cap, rfl, ownsRow_wide ho (by omega), hb.out⟩
    | succ g =>
      have hr4 : (r : Int) < 4 := by omega
      go_wp2_with fail
      go_loopg [3, 5] 4 (fun h s3 s5 wx => ∃ (c : Nat) (v : Value), c + h = 4 ∧ s5 = .int .i64 c ∧ v = s3 ∧ (∃ gg cap, v = .slice (some ⟨gg, 0, none⟩) (empN f (r * 4 + c)) cap) ∧ OwnsCells wx (w.heap.size + 1) v (empN f (r * 4 + c)) (empL f (r * 4 + c)) ∧ Blk wx w.heap.size 16 f 26 ∧ Hid (Below w.heap.size w wx))
      case atStart => exact ⟨0, _, by omega, rfl, rfl, hv, ho, k1, hb⟩
      case round =>
        obtain ⟨c, v, hch, rfl, rfl, hv, ho, k1, hb⟩ := hrel
        cases gk with
        | zero =>
          have hc : ¬ ((c : Int) < 4) := by omega
          have HC : Hid (r * 4 + c = (r + 1) * 4) := by show _ = _; omega
          go_wp2_with fail
          go_roundg g
          case rel => exact ⟨r + 1, _, by omega, by go_num, rfl, by rw [HC.out] at hv; exact hv, by rw [HC.out] at ho; exact ho, k1, hb⟩
          case measure => omega
        | succ h =>
          have hc : (c : Int) < 4 := by omega
          have c1 := k1.cell (i := r * 4 + c) (by omega)
          have hn := empN_le f (r * 4 + c)
          have hn16 : empN f (r * 4 + c) ≤ 16 := by omega
          by_cases h0 : f (r * 4 + c) = 0
          · obtain ⟨y1, y2⟩ := emp_yes h0
            have Y1 := Lib.hid y1
            have Y2 := Lib.hid y2
            have HQ : Hid ((r * 4 + c) / 4 = r ∧ (r * 4 + c) % 4 = c) := by show _ ∧ _; omega
            clear y1 y2
            rw [h0] at c1
            clear h0
            have ho0 : wr.ownsRow (w.heap.size + 1) 37 2 v (empN f (r * 4 + c)) ((empL f (r * 4 + c)).map (Value.int .i64)) := ho
            clear ho
            have hsz := hb.out.size
            go_wp2_with (at_builtin; refine wpList_append_own _ rfl _ _ 98 rfl (w.heap.size + 1) 37 i0 (.agg #[.int .i64 0, .int .i64 0]) 2 16 Try.underlying98 hi hz0 hz1 hz2 rfl (by decide) _ _ _ rfl (ho0.alloc _) ⟨wr.heap.size, 0, none⟩ 1 1 [.int .i64 r, .int .i64 c] rfl rfl ?c1 ?c2 ?c3 ?c4 ?c5 ?_)
            case c1 => exact cell_two_new _ _ _ _
            case c2 => simp [Value.oneCell']
            case c3 => unfold maxLen; omega
            case c4 => omega
            case c5 => simp; omega
            intro v' w2 hown' hgrow' _
            obtain ⟨gg, cap, hv'⟩ := ownsRow_succ hown'
            have HV' : Hid (∃ gg cap, v' = .slice (some ⟨gg, 0, none⟩) (empN f (r * 4 + c) + 1) cap) := ⟨gg, cap, hv'⟩
            have HB2 : Hid (Below w.heap.size w w2) := ((hb.out).alloc hsz _).grown hgrow' (by simp; omega) (fun j hj => by have := (ho0.lt j hj).1; omega)
            have K2 := (k1.alloc (.cells #[.int .i64 r, .int .i64 c] 37)).grown hgrow' (fun e => by have := (ho0.lt _ e.symm).1; omega)
            have HO : Hid (OwnsCells w2 (w.heap.size + 1) v' (empN f (r * 4 + c) + 1) (empL f (r * 4 + c) ++ [(r : Int), (c : Int)])) := by
              show OwnsCells _ _ _ _ _
              unfold OwnsCells
              rw [List.map_append]
              exact hown'
            clear hown' hgrow' ho0 hv' k1
            go_wp2_with fail
            go_roundg h
            case rel => exact ⟨c + 1, _, by omega, by go_num, rfl, by rw [show r * 4 + (c + 1) = r * 4 + c + 1 by omega, Y2.out]; exact HV'.out, by rw [show r * 4 + (c + 1) = r * 4 + c + 1 by omega, Y1.out, Y2.out, HQ.out.1, HQ.out.2]; exact HO.out, K2, HB2⟩
            case measure => omega
          · obtain ⟨y1, y2⟩ := emp_no h0
            have Y1 := Lib.hid y1
            have Y2 := Lib.hid y2
            have q0 : (f (r * 4 + c) == 0) = false := by simpa using h0
            clear y1 y2 h0
            go_wp2_with fail
            go_roundg h
            case rel => exact ⟨c + 1, _, by omega, by go_num, rfl, by rw [show r * 4 + (c + 1) = r * 4 + c + 1 by omega, Y2.out]; exact hv, by rw [show r * 4 + (c + 1) = r * 4 + c + 1 by omega, Y1.out, Y2.out]; exact ho, k1, hb⟩
            case measure => omega
end Go.Proofs.Ytfjpdopljmilpaa
