/-
  A board and a slice of steps in one value (a replay): made, read, written, handed back. Nothing is proved here of the program's functions.
-/
import Derived.Test.YtfjpdopljmilpaaStepsIn
import Derived.Test.YtfjpdopljmilpaaSlideTo
import Derived.Test.YtfjpdopljmilpaaReplPlain
namespace Go.Proofs.Ytfjpdopljmilpaa
open Go.RowKit Plain
set_option linter.unusedVariables false
/-- A board and a slice. -/
def rpl (f : Nat → Int) (v : Value) : Array Value := (mk 16 f).push v
theorem rpl_size (f : Nat → Int) (v : Value) : (rpl f v).size = 17 := by simp [rpl, mk_size]
theorem rpl_get (f : Nat → Int) (v : Value) {i : Nat} (h : i < 16) : (rpl f v)[i]? = some (.int .i64 (f i)) := by
  unfold rpl; rw [Array.getElem?_push, mk_size, if_neg (by omega), mk_get f h]
theorem rpl_last (f : Nat → Int) (v : Value) : (rpl f v)[16]? = some v := by
  unfold rpl; rw [Array.getElem?_push, mk_size, if_pos rfl]
theorem rpl_out (f : Nat → Int) (v : Value) {i : Nat} (h : 17 ≤ i) : (rpl f v)[i]? = none := by
  rw [Array.getElem?_eq_none (by rw [rpl_size]; exact h)]
theorem rpl_ext {f : Nat → Int} {v : Value} {cs : Array Value} (hs : cs.size = 17) (h : ∀ i, i < 16 → cs[i]? = some (.int .i64 (f i))) (hv : cs[16]? = some v) : cs = rpl f v := by
  apply Array.ext_getElem?
  intro i
  rcases (by omega : i < 16 ∨ i = 16 ∨ 17 ≤ i) with q | rfl | q
  · rw [h i q, rpl_get f v q]
  · rw [hv, rpl_last]
  · rw [rpl_out f v q, Array.getElem?_eq_none (by omega)]
theorem rpl_congr {f g : Nat → Int} (v : Value) (h : ∀ i, i < 16 → f i = g i) : rpl f v = rpl g v := rpl_ext (rpl_size f v) (fun i hi => by rw [rpl_get f v hi, h i hi]) (rpl_last f v)
theorem rpl_one (f : Nat → Int) {v : Value} (h : v.oneCell' = true) : (rpl f v).all (·.oneCell') = true := by
  unfold rpl; rw [Array.all_push, mk_one, h]; rfl
theorem zeroRp : (#[.int .i64 0, .int .i64 0, .int .i64 0, .int .i64 0, .int .i64 0, .int .i64 0, .int .i64 0, .int .i64 0, .int .i64 0, .int .i64 0, .int .i64 0, .int .i64 0, .int .i64 0, .int .i64 0, .int .i64 0, .int .i64 0, .slice none 0 0] : Array Value) = rpl (fun _ => 0) (.slice none 0 0) := rfl
/-- The block holds a board and a slice. -/
def Rp (w : World) (b : Nat) (f : Nat → Int) (v : Value) (t : TypeId) : Prop := w.heap[b]? = some (.cells (rpl f v) t (0, 0))
section
variable {w w' : World} {b : Nat} {f : Nat → Int} {v : Value} {t : TypeId}
theorem Rp.new (w : World) (f : Nat → Int) (v : Value) (t : TypeId) : Rp (w.alloc (.cells (rpl f v) t)) w.heap.size f v t := heap_alloc_new w _
theorem Rp.lt (h : Rp w b f v t) : b < w.heap.size := (Array.getElem?_eq_some_iff.1 h).1
theorem Rp.alloc (h : Rp w b f v t) (o : Obj) : Rp (w.alloc o) b f v t := (heap_alloc_old w o h.lt).trans h
theorem Rp.drew (h : Rp w b f v t) : Rp w.drew b f v t := h
theorem Rp.cell (h : Rp w b f v t) {i : Nat} (hi : i < 16) : w.cell? ⟨b, i, none⟩ = some (.int .i64 (f i)) := (cell_of_row w b i _ t _ h).trans (rpl_get f v hi)
theorem Rp.last (h : Rp w b f v t) : w.cell? ⟨b, 16, none⟩ = some v := (cell_of_row w b 16 _ t _ h).trans (rpl_last f v)
theorem Rp.free (h : Rp w b f v t) (i : Nat) : w.frozen? ⟨b, i, none⟩ = false := frozen_of_row w b i _ t h
theorem Rp.setOther (h : Rp w b f v t) (p : Addr) (x : Value) (hp : b ≠ p.block) : Rp (w.setCell p x) b f v t := (heap_setCell_other w p b x hp).trans h
theorem Rp.row (h : Rp w b f v t) (g : Nat → Int) (u : Value) : Rp (w.setRow b (rpl g u)) b g u t := setRow_heap w b _ _ t _ h
theorem Rp.rowOther (h : Rp w b f v t) (c : Nat) (cs : Array Value) (hc : b ≠ c) : Rp (w.setRow c cs) b f v t := (setRow_other w c b cs hc).trans h
theorem Rp.below {B : Nat} (h : Rp w b f v t) (hb : Below B w w') (hB : b < B) : Rp w' b f v t := (hb.block b hB).trans h
theorem Rp.set (h : Rp w b f v t) (x : Value) : Rp (w.setCell ⟨b, 16, none⟩ x) b f x t := by
  have := heap_setCell_same w b 16 _ t x h
  rwa [show (rpl f v).setIfInBounds 16 x = rpl f x from rpl_ext (by simp [rpl_size]) (fun i hi => by rw [Array.getElem?_setIfInBounds, if_neg (by omega), rpl_get f v hi]) (by rw [Array.getElem?_setIfInBounds, if_pos rfl, rpl_size]; rfl)] at this
theorem Rp.range (h : Rp w b f v t) : w.rangeAt b 0 (mk 16 f).toList := by
  have := World.rangeAt_of_block h 0 16
  rwa [show (rpl f v).extract 0 (0 + 16) = mk 16 f from mk_ext (by simp [rpl_size]) (fun i hi => by rw [Array.getElem?_extract, rpl_size, if_pos (by omega), Nat.zero_add, rpl_get f v hi])] at this
theorem Rp.there (h : Rp w b f v t) : w.there b 0 16 := fun j hj =>
  ⟨by rw [h.cell (by omega)]; rfl, h.free _⟩
/-- Values over values, from a place on. -/
def over (cs : Array Value) : Nat → List Value → Array Value
  | _, [] => cs
  | o, x :: vs => over (cs.setIfInBounds o x) (o + 1) vs
theorem over_get : ∀ (vs : List Value) (cs : Array Value) (o i : Nat), o + vs.length ≤ cs.size → (over cs o vs)[i]? = if o ≤ i ∧ i < o + vs.length then vs[i - o]? else cs[i]?
  | [], cs, o, i, _ => by simp [over]; omega
  | x :: vs, cs, o, i, h => by
    simp only [List.length_cons] at h
    unfold over
    rw [over_get vs _ (o + 1) i (by simp; omega)]
    simp only [List.length_cons]
    rcases (by omega : i = o ∨ (o + 1 ≤ i ∧ i < o + 1 + vs.length) ∨ ¬ (o ≤ i ∧ i < o + (vs.length + 1))) with rfl | q | q
    · rw [if_neg (by omega), if_pos (by omega), Array.getElem?_setIfInBounds, if_pos rfl, if_pos (by omega)]; simp
    · rw [if_pos q, if_pos (by omega), show i - o = (i - (o + 1)) + 1 by omega]; simp
    · rw [if_neg (by omega), if_neg q, Array.getElem?_setIfInBounds, if_neg (by omega)]
theorem setCells_over : ∀ (vs : List Value) (w : World) (b o : Nat) (cs : Array Value) (t : TypeId), w.heap[b]? = some (.cells cs t (0, 0)) → w.setCells b o vs = w.setRow b (over cs o vs)
  | [], w, b, o, cs, t, h => by
    show w = w.setRow b cs
    obtain ⟨hp, os, tp, dr, ou⟩ := w
    simp only [World.setRow, World.mk.injEq, and_true]
    apply Array.ext_getElem?
    intro i
    rw [Array.getElem?_modify]
    by_cases e : b = i
    · subst e
      have h' : hp[b]? = some (.cells cs t (0, 0)) := h
      simp [h']
    · rw [if_neg e]
  | x :: vs, w, b, o, cs, t, h => by
    have h1 := heap_setCell_same w b o _ t x h
    show (w.setCell ⟨b, o, none⟩ x).setCells b (o + 1) vs = _
    rw [setCells_over vs _ b (o + 1) _ t h1, setCell_eq_setRow w b o _ t (0, 0) _ h, setRow_setRow]
    rfl
theorem over_rpl (f g : Nat → Int) (v : Value) : over (rpl f v) 0 (mk 16 g).toList = rpl g v := by
  refine rpl_ext ?_ (fun i hi => ?_) ?_
  · have : ∀ (vs : List Value) (cs : Array Value) (o : Nat), (over cs o vs).size = cs.size := by
      intro vs
      induction vs with
      | nil => intro cs o; rfl
      | cons x vs ih => intro cs o; unfold over; rw [ih]; simp
    rw [this, rpl_size]
  · rw [over_get _ _ _ _ (by rw [mk_len, rpl_size]; omega), mk_len, if_pos (by omega), Array.getElem?_toList, Nat.sub_zero, mk_get g hi]
  · rw [over_get _ _ _ _ (by rw [mk_len, rpl_size]; omega), mk_len, if_neg (by omega), rpl_last]
end
theorem sizeRp : (Try.prog.info? 29).map (·.size) = some 17 := by kernel_rfl
theorem loadRp {ops : Array Oper} {rest : List Oper} {o : Oper} {a : Act} {w : World} {Q : Exit → Act → World → Prop} {x : Operand} {b : Nat} {f : Nat → Int} {v : Value} {t : TypeId}
    (hg : Rp w b f v t) (hgd : o.guard = none) (ho : o.op = .load 29 x) (hx : a.eval x = .pointer (some ⟨b, 0, none⟩))
    (h : wpList Try.prog ops Q rest (a.put o.dst (.agg (rpl f v))) w) : wpList Try.prog ops Q (o :: rest) a w :=
  wpList_load_row hgd _ x ho b hx t _ _ _ hg Try.underlying29 rfl (by rw [rpl_size]; exact sizeRp) h
theorem storeRp {ops : Array Oper} {rest : List Oper} {o : Oper} {a : Act} {w : World} {Q : Exit → Act → World → Prop} {x y : Operand} {b : Nat} {f g : Nat → Int} {v u : Value} {t : TypeId}
    (hg : Rp w b f v t) (h1 : u.oneCell' = true) (hgd : o.guard = none) (ho : o.op = .store 29 x y) (hx : a.eval x = .pointer (some ⟨b, 0, none⟩)) (hy : a.eval y = .agg (rpl g u))
    (h : wpList Try.prog ops Q rest (a.put o.dst undef) (w.setRow b (rpl g u))) : wpList Try.prog ops Q (o :: rest) a w :=
  wpList_store_row hgd _ x y ho b _ hx hy t _ hg (by rw [rpl_size]; exact sizeRp) (by rw [rpl_size, rpl_size]) (rpl_one g h1) h
/-- The board out of a replay. -/
theorem loadRB {ops : Array Oper} {rest : List Oper} {o : Oper} {a : Act} {w : World} {Q : Exit → Act → World → Prop} {x : Operand} {b : Nat} {f : Nat → Int} {v : Value} {t : TypeId}
    (hg : Rp w b f v t) (hgd : o.guard = none) (ho : o.op = .load 26 x) (hx : a.eval x = .pointer (some ⟨b, 0, none⟩))
    (h : wpList Try.prog ops Q rest (a.put o.dst (.agg (mk 16 f))) w) : wpList Try.prog ops Q (o :: rest) a w :=
  wpList_load_mid hgd _ x ho b 0 hx _ _ hg.range Try.underlying26 rfl (by rw [mk_len]; exact sizeB) (by rw [Array.toArray_toList]; exact h)
theorem loadRK {ops : Array Oper} {rest : List Oper} {o : Oper} {a : Act} {w : World} {Q : Exit → Act → World → Prop} {x : Operand} {b : Nat} {f : Nat → Int} {v : Value} {t : TypeId}
    (hg : Rp w b f v t) (hgd : o.guard = none) (ho : o.op = .load 25 x) (hx : a.eval x = .pointer (some ⟨b, 0, none⟩))
    (h : wpList Try.prog ops Q rest (a.put o.dst (.agg (mk 16 f))) w) : wpList Try.prog ops Q (o :: rest) a w :=
  wpList_load_mid hgd _ x ho b 0 hx _ _ hg.range Try.underlying25 rfl (by rw [mk_len]; exact sizeK) (by rw [Array.toArray_toList]; exact h)
theorem storeRB {ops : Array Oper} {rest : List Oper} {o : Oper} {a : Act} {w : World} {Q : Exit → Act → World → Prop} {x y : Operand} {b : Nat} {f g : Nat → Int} {v : Value} {t : TypeId}
    (hg : Rp w b f v t) (hgd : o.guard = none) (ho : o.op = .store 26 x y) (hx : a.eval x = .pointer (some ⟨b, 0, none⟩)) (hy : a.eval y = .agg (mk 16 g))
    (h : wpList Try.prog ops Q rest (a.put o.dst undef) (w.setRow b (rpl g v))) : wpList Try.prog ops Q (o :: rest) a w :=
  wpList_store_mid hgd _ x y ho b 0 _ hx hy (by rw [mk_size]; exact hg.there) (by rw [mk_size]; exact sizeB) (mk_one g) (by rw [setCells_over _ _ _ _ _ _ hg, over_rpl]; exact h)
theorem run_load_rp {w : World} {b : Nat} {f : Nat → Int} {v : Value} {t : TypeId} (hg : Rp w b f v t) : (loadVar 29 ⟨b, 0, none⟩).run Try.prog w = .ok (.agg (rpl f v)) w :=
  run_loadVar_row w b t _ _ _ _ hg Try.underlying29 rfl (by rw [rpl_size]; exact sizeRp)
theorem retRp {fn : Func} {R : Ending → World → Prop} {a : Act} {w : World} {p : Tmp} {t : TypeId} {b : Nat} {f : Nat → Int} {v : Value}
    (hg : Rp w b f v t) (h : fn.results = #[.cell p 29]) (hp : a.tmps.getD p undef = .pointer (some ⟨b, 0, none⟩)) (hdf : a.defers = [])
    (hR : R (.returned (.agg (rpl f v))) w) : bodyPost Try.prog fn R .ret a w := by
  have hp' : a.tmps[p]?.getD undef = .pointer (some ⟨b, 0, none⟩) := by simpa using hp
  exact bodyPost_ret (v := .agg (rpl f v)) (by simp [results, h, hp', asAddr, run_load_rp hg]) hdf hR
theorem retRpT {fn : Func} {R : Ending → World → Prop} {a : Act} {w : World} {p q : Tmp} {t : TypeId} {b : Nat} {f : Nat → Int} {v : Value}
    (hg : Rp w b f v t) (h : fn.results = #[.cell p 29, .tmp q]) (hp : a.tmps.getD p undef = .pointer (some ⟨b, 0, none⟩)) (hdf : a.defers = [])
    (hR : R (.returned (.tuple #[.agg (rpl f v), a.tmps.getD q undef])) w) : bodyPost Try.prog fn R .ret a w := by
  have hp' : a.tmps[p]?.getD undef = .pointer (some ⟨b, 0, none⟩) := by simpa using hp
  exact bodyPost_ret (v := .tuple #[.agg (rpl f v), a.tmps.getD q undef]) (by simp [results, h, hp', asAddr, run_load_rp hg]) hdf hR
theorem retRpTT {fn : Func} {R : Ending → World → Prop} {a : Act} {w : World} {p q r : Tmp} {t : TypeId} {b : Nat} {f : Nat → Int} {v : Value}
    (hg : Rp w b f v t) (h : fn.results = #[.cell p 29, .tmp q, .tmp r]) (hp : a.tmps.getD p undef = .pointer (some ⟨b, 0, none⟩)) (hdf : a.defers = [])
    (hR : R (.returned (.tuple #[.agg (rpl f v), a.tmps.getD q undef, a.tmps.getD r undef])) w) : bodyPost Try.prog fn R .ret a w := by
  have hp' : a.tmps[p]?.getD undef = .pointer (some ⟨b, 0, none⟩) := by simpa using hp
  exact bodyPost_ret (v := .tuple #[.agg (rpl f v), a.tmps.getD q undef, a.tmps.getD r undef]) (by simp [results, h, hp', asAddr, run_load_rp hg]) hdf hR
end Go.Proofs.Ytfjpdopljmilpaa
