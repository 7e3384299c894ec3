/-
  Small words for arrays of values that are one cell each (slices, Booleans): made, read, written, indexed. Nothing is proved here of the program's functions.
-/
import Derived.Test.YtmcmpedmgibmkabGreatSlideTo
import Derived.Test.YtmcmpedmgibmkabGreatRowsKit
import Derived.Test.YtmcmpedmgibmkabGreatPreMerge
namespace Go.Proofs.YtmcmpedmgibmkabGreat
open Go.RowKit Plain
set_option linter.unusedVariables false
/-- n values, told by a function of their places. -/
def vk (n : Nat) (v : Nat → Value) : Array Value := ((List.range n).map v).toArray
def updV (v : Nat → Value) (i : Nat) (x : Value) : Nat → Value := fun j => if j = i then x else v j
theorem updV_same (v : Nat → Value) (i : Nat) (x : Value) : updV v i x i = x := by simp [updV]
theorem updV_other (v : Nat → Value) {i j : Nat} (x : Value) (h : j ≠ i) : updV v i x j = v j := by simp [updV, h]
theorem vk_size (n : Nat) (v : Nat → Value) : (vk n v).size = n := by simp [vk]
theorem vk_get {n i : Nat} (v : Nat → Value) (h : i < n) : (vk n v)[i]? = some (v i) := by simp [vk, h]
theorem vk_out {n i : Nat} (v : Nat → Value) (h : n ≤ i) : (vk n v)[i]? = none := by simp [vk, h]
theorem vk_ext {n : Nat} {v : Nat → Value} {cs : Array Value} (hs : cs.size = n) (h : ∀ i, i < n → cs[i]? = some (v i)) : cs = vk n v := by
  apply Array.ext_getElem?
  intro i
  by_cases hi : i < n
  · rw [h i hi, vk_get v hi]
  · rw [vk_out v (by omega), Array.getElem?_eq_none (by omega)]
theorem vk_congr {n : Nat} {v u : Nat → Value} (h : ∀ i, i < n → v i = u i) : vk n v = vk n u := vk_ext (vk_size n v) fun i hi => by rw [vk_get v hi, h i hi]
theorem vk_set {n i : Nat} (v : Nat → Value) (x : Value) (h : i < n) : (vk n v).setIfInBounds i x = vk n (updV v i x) := by
  refine vk_ext (by simp [vk_size]) fun j hj => ?_
  rw [Array.getElem?_setIfInBounds, vk_size]
  by_cases e : i = j
  · subst e; simp [h, updV]
  · rw [if_neg e, vk_get v hj]; simp [updV, Ne.symm e]
theorem Oth.new (w : World) (cs : Array Value) (t : TypeId) : Oth (w.alloc (.cells cs t)) w.heap.size cs t := heap_alloc_new w _
theorem Oth.row {w : World} {b : Nat} {cs : Array Value} {t : TypeId} (h : Oth w b cs t) (ds : Array Value) : Oth (w.setRow b ds) b ds t := setRow_heap w b _ _ t _ h
theorem Oth.drew {w : World} {b : Nat} {cs : Array Value} {t : TypeId} (h : Oth w b cs t) : Oth w.drew b cs t := h
theorem Oth.get {w : World} {b n i : Nat} {v : Nat → Value} {t : TypeId} (h : Oth w b (vk n v) t) (hi : i < n) : w.cell? ⟨b, i, none⟩ = some (v i) := (h.cell i).trans (vk_get v hi)
theorem Oth.free {w : World} {b : Nat} {cs : Array Value} {t : TypeId} (h : Oth w b cs t) (i : Nat) : w.frozen? ⟨b, i, none⟩ = false := frozen_of_row w b i _ t h
theorem Oth.set {w : World} {b n i : Nat} {v : Nat → Value} {t : TypeId} (h : Oth w b (vk n v) t) (hi : i < n) (x : Value) : Oth (w.setCell ⟨b, i, none⟩ x) b (vk n (updV v i x)) t := by
  have := heap_setCell_same w b i _ t x h
  rwa [vk_set v x hi] at this
/-- A value out of an array of such. -/
theorem run_index_one {P : Program} {t e : TypeId} {L k : Nat} {d : TypeDesc} (hu : P.underlying t = some (.array L e)) (he : P.underlying e = some d) (hd : d.isRow = false)
    (hi : (P.info? e).map (·.size) = some 1) (v : Nat → Value) (hk : k < L) (w : World) :
    (Instr.index t (.agg (vk L v)) (.int .i64 (k : Int))).run P w = .ok (v k) w := by
  have hagg : (isAgg e).run P w = .ok false w := by
    unfold isAgg
    rw [Sem.run_bind, run_underlying he w]
    cases d <;> simp_all
  cases hq : P.info? e with
  | none => simp [hq] at hi
  | some i =>
    have hs : i.size = 1 := by simpa [hq] using hi
    simp [Instr.index, asIntOf, run_underlying hu, part, hagg, sizeOf, typeInfo, hq, hs, vk_get v hk]
    intro h; omega
/-- A whole array of such values is read. -/
theorem wpl_load_vk {P : Program} {ops : Array Oper} {rest : List Oper} {o : Oper} {a : Act} {w : World} {Q : Exit → Act → World → Prop} (hgd : o.guard = none) (ty : TypeId) (x : Operand) (ho : o.op = .load ty x) {b n : Nat} {v : Nat → Value} {t : TypeId} {d : TypeDesc}
    (hx : a.eval x = .pointer (some ⟨b, 0, none⟩)) (hg : Oth w b (vk n v) t)
    (hu : P.underlying ty = some d) (hd : d.isRow = true) (hi : (P.info? ty).map (·.size) = some n)
    (h : wpList P ops Q rest (a.put o.dst (.agg (vk n v))) w) : wpList P ops Q (o :: rest) a w :=
  wpList_load_row hgd ty x ho b hx t _ _ d hg hu (by cases d <;> first | rfl | exact hd) (by rw [vk_size]; exact hi) h
theorem wpl_store_vk {P : Program} {ops : Array Oper} {rest : List Oper} {o : Oper} {a : Act} {w : World} {Q : Exit → Act → World → Prop} (hgd : o.guard = none) (ty : TypeId) (x y : Operand) (ho : o.op = .store ty x y) {b n : Nat} {v u : Nat → Value} {t : TypeId}
    (hx : a.eval x = .pointer (some ⟨b, 0, none⟩)) (hy : a.eval y = .agg (vk n u)) (hg : Oth w b (vk n v) t)
    (hi : (P.info? ty).map (·.size) = some n) (h1 : (vk n u).all (·.oneCell') = true)
    (h : wpList P ops Q rest (a.put o.dst undef) (w.setRow b (vk n u))) : wpList P ops Q (o :: rest) a w :=
  wpList_store_row hgd ty x y ho b _ hx hy t _ hg (by rw [vk_size]; exact hi) (by rw [vk_size, vk_size]) h1 h
theorem run_load_vk {P : Program} {w : World} {b n : Nat} {v : Nat → Value} {t ty : TypeId} {d : TypeDesc} (hg : Oth w b (vk n v) t) (hu : P.underlying ty = some d) (hd : d.isRow = true) (hi : (P.info? ty).map (·.size) = some n) :
    (loadVar ty ⟨b, 0, none⟩).run P w = .ok (.agg (vk n v)) w :=
  run_loadVar_row w b t ty _ _ d hg hu (by cases d <;> first | rfl | exact hd) (by rw [vk_size]; exact hi)
theorem ret_vk {P : Program} {fn : Func} {R : Ending → World → Prop} {a : Act} {w : World} {p : Tmp} {ty t : TypeId} {b n : Nat} {v : Nat → Value} {d : TypeDesc}
    (hu : P.underlying ty = some d) (hd : d.isRow = true) (hi : (P.info? ty).map (·.size) = some n)
    (h : fn.results = #[.cell p ty]) (hp : a.tmps.getD p undef = .pointer (some ⟨b, 0, none⟩)) (hdf : a.defers = []) (hg : Oth w b (vk n v) t)
    (hR : R (.returned (.agg (vk n v))) w) : bodyPost P fn R .ret a w := by
  have hp' : a.tmps[p]?.getD undef = .pointer (some ⟨b, 0, none⟩) := by simpa using hp
  exact bodyPost_ret (v := .agg (vk n v)) (by simp [results, h, hp', asAddr, run_load_vk hg hu hd hi]) hdf hR
/-- Four lists of rows, one for each line of a board: the rows before them. -/
def LinesB (w : World) (base : Nat) (f : Nat → Int) (d n : Nat) (v : Nat → Value) : Prop := ∀ i, i < n → ∃ g c, v i = .slice (some ⟨g, 0, none⟩) (lnR f d i).length c ∧ base ≤ g ∧ CAt w g ((lnR f d i).length * 4) (flatF (lnR f d i))
theorem LinesB.below {w w' : World} {base n : Nat} {f : Nat → Int} {d : Nat} {v : Nat → Value} (h : LinesB w base f d n v) (hb : Below w.heap.size w w') : LinesB w' base f d n v := fun i hi => by
  obtain ⟨g, c, h1, h2, h3⟩ := h i hi; exact ⟨g, c, h1, h2, h3.below hb⟩
theorem LinesB.alloc {w : World} {base n : Nat} {f : Nat → Int} {d : Nat} {v : Nat → Value} (h : LinesB w base f d n v) (o : Obj) : LinesB (w.alloc o) base f d n v := h.below ((Below.refl _ w).alloc (Nat.le_refl _) o)
theorem LinesB.drew {w : World} {base n : Nat} {f : Nat → Int} {d : Nat} {v : Nat → Value} (h : LinesB w base f d n v) : LinesB w.drew base f d n v := h
theorem LinesB.wide {w : World} {base base' n : Nat} {f : Nat → Int} {d : Nat} {v : Nat → Value} (h : LinesB w base f d n v) (hb : base' ≤ base) : LinesB w base' f d n v := fun i hi => by
  obtain ⟨g, c, h1, h2, h3⟩ := h i hi; exact ⟨g, c, h1, by omega, h3⟩
theorem LinesB.low {B : Nat} {w w' : World} {base n : Nat} {f : Nat → Int} {d : Nat} {v : Nat → Value} (h : LinesB w base f d n v) (hb : Below B w w') (hB : w.heap.size ≤ B) : LinesB w' base f d n v := fun i hi => by
  obtain ⟨g, c, h1, h2, h3⟩ := h i hi; exact ⟨g, c, h1, h2, h3.low hb (Nat.lt_of_lt_of_le h3.1 hB)⟩
end Go.Proofs.YtmcmpedmgibmkabGreat
