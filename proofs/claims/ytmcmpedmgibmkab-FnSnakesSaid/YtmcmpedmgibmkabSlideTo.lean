/-
  The contract of impl.slideTo: for every board whose numbers are those of cells and every direction, the board behind the slide, the score and the number of mergers.
-/
import Derived.Test.YtmcmpedmgibmkabBaseA
import Derived.Test.YtmcmpedmgibmkabSlideLine
namespace Go.Proofs.Ytmcmpedmgibmkab
open Go.RowKit Plain
attribute [local go_sem] store_new
/-- A block that is not of integers. -/
def Oth (w : World) (b : Nat) (cs : Array Value) (t : TypeId) : Prop := w.heap[b]? = some (.cells cs t (0, 0))
theorem Oth.lt {w : World} {b : Nat} {cs : Array Value} {t : TypeId} (h : Oth w b cs t) : b < w.heap.size := (Array.getElem?_eq_some_iff.1 h).1
theorem Oth.alloc {w : World} {b : Nat} {cs : Array Value} {t : TypeId} (h : Oth w b cs t) (o : Obj) : Oth (w.alloc o) b cs t := (heap_alloc_old w o h.lt).trans h
theorem Oth.setOther {w : World} {b : Nat} {cs : Array Value} {t : TypeId} (h : Oth w b cs t) (p : Addr) (v : Value) (hp : b ≠ p.block) : Oth (w.setCell p v) b cs t := (heap_setCell_other w p b v hp).trans h
theorem Oth.rowOther {w : World} {b : Nat} {cs : Array Value} {t : TypeId} (h : Oth w b cs t) (c : Nat) (ds : Array Value) (hc : b ≠ c) : Oth (w.setRow c ds) b cs t := (setRow_other w c b ds hc).trans h
theorem Oth.below {w w' : World} {b B : Nat} {cs : Array Value} {t : TypeId} (h : Oth w b cs t) (hb : Below B w w') (hB : b < B) : Oth w' b cs t := (hb.block b hB).trans h
theorem Oth.cell {w : World} {b : Nat} {cs : Array Value} {t : TypeId} (h : Oth w b cs t) (j : Nat) : w.cell? ⟨b, j, none⟩ = cs[j]? := cell_of_row w b j cs t _ h

theorem there_0 (f : Nat → Int) (w : World) :
    Calls Try.prog 67 #[.agg (mk 16 f)] w fun e w' => e = .returned (.agg (mk 16 (viewF f 0))) ∧ Below w.heap.size w w' :=
  (unturned_any f w).mono fun _ _ h => ⟨by rw [h.1, mk_congr (g := viewF f 0) fun j hj => by unfold viewF pos; simp <;> (congr 1; omega)], h.2⟩
theorem back_0 (f : Nat → Int) (w : World) :
    Calls Try.prog 67 #[.agg (mk 16 f)] w fun e w' => e = .returned (.agg (mk 16 (backF f 0))) ∧ Below w.heap.size w w' :=
  (unturned_any f w).mono fun _ _ h => ⟨by rw [h.1, mk_congr (g := backF f 0) fun j hj => by unfold backF lineOf placeOf; simp <;> (congr 1; omega)], h.2⟩
theorem there_1 (f : Nat → Int) (w : World) :
    Calls Try.prog 72 #[.agg (mk 16 f)] w fun e w' => e = .returned (.agg (mk 16 (viewF f 1))) ∧ Below w.heap.size w w' :=
  (transposed_any f w).mono fun _ _ h => ⟨by rw [h.1, mk_congr (g := viewF f 1) fun j hj => by unfold viewF pos; simp <;> (congr 1; omega)], h.2⟩
theorem back_1 (f : Nat → Int) (w : World) :
    Calls Try.prog 72 #[.agg (mk 16 f)] w fun e w' => e = .returned (.agg (mk 16 (backF f 1))) ∧ Below w.heap.size w w' :=
  (transposed_any f w).mono fun _ _ h => ⟨by rw [h.1, mk_congr (g := backF f 1) fun j hj => by unfold backF lineOf placeOf; simp <;> (congr 1; omega)], h.2⟩
theorem there_2 (f : Nat → Int) (w : World) :
    Calls Try.prog 71 #[.agg (mk 16 f)] w fun e w' => e = .returned (.agg (mk 16 (viewF f 2))) ∧ Below w.heap.size w w' :=
  (mirrored_any f w).mono fun _ _ h => ⟨by rw [h.1, mk_congr (g := viewF f 2) fun j hj => by unfold viewF pos; simp <;> (congr 1; omega)], h.2⟩
theorem back_2 (f : Nat → Int) (w : World) :
    Calls Try.prog 71 #[.agg (mk 16 f)] w fun e w' => e = .returned (.agg (mk 16 (backF f 2))) ∧ Below w.heap.size w w' :=
  (mirrored_any f w).mono fun _ _ h => ⟨by rw [h.1, mk_congr (g := backF f 2) fun j hj => by unfold backF lineOf placeOf; simp <;> (congr 1; omega)], h.2⟩
theorem there_3 (f : Nat → Int) (w : World) :
    Calls Try.prog 68 #[.agg (mk 16 f)] w fun e w' => e = .returned (.agg (mk 16 (viewF f 3))) ∧ Below w.heap.size w w' :=
  (turned_any f w).mono fun _ _ h => ⟨by rw [h.1, mk_congr (g := viewF f 3) fun j hj => by unfold viewF pos; simp <;> (congr 1; omega)], h.2⟩
theorem back_3 (f : Nat → Int) (w : World) :
    Calls Try.prog 70 #[.agg (mk 16 f)] w fun e w' => e = .returned (.agg (mk 16 (backF f 3))) ∧ Below w.heap.size w w' :=
  (turnedBack_any f w).mono fun _ _ h => ⟨by rw [h.1, mk_congr (g := backF f 3) fun j hj => by unfold backF lineOf placeOf; simp <;> (congr 1; omega)], h.2⟩
end Go.Proofs.Ytmcmpedmgibmkab
