/-
  The contracts of PlaceTile, in the reference and in the program, for every board and every three numbers.
-/
import Derived.Test.YtkocfpldgjfpeaaTripKit
import Derived.Test.YtkocfpldgjfpeaaSpecPut
import Derived.Test.YtkocfpldgjfpeaaImplPut
namespace Go.Proofs.Ytkocfpldgjfpeaa
open Go.RowKit Plain
attribute [local go_sem] store_new
set_option linter.unusedVariables false
set_option linter.unusedSimpArgs false
namespace Plain
/-- What PlaceTile returns. -/
def ptB (f p : Nat → Int) : Nat → Int := if p 2 ≤ 2 then putB f p (p 2) else fun _ => 0
def ptO (f p : Nat → Int) : Bool := if p 2 ≤ 2 then putO f p (p 2) else false
theorem pt_yes {f p : Nat → Int} (h : p 2 ≤ 2) : ptB f p = putB f p (p 2) ∧ ptO f p = putO f p (p 2) := by simp [ptB, ptO, h]
theorem pt_no {f p : Nat → Int} (h : ¬ p 2 ≤ 2) : ptB f p = (fun _ => 0) ∧ ptO f p = false := by simp [ptB, ptO, h]
theorem pt_ok {f p : Nat → Int} (h : PutOk f p (p 2)) (h2 : p 2 ≤ 2) : ptB f p = upd f (placeAt p) (p 2) ∧ ptO f p = true := by
  obtain ⟨a, b⟩ := pt_yes (f := f) h2
  obtain ⟨c, d⟩ := put_yes h
  exact ⟨a.trans d, b.trans c⟩
theorem pt_not {f p : Nat → Int} (h : ¬ (PutOk f p (p 2) ∧ p 2 ≤ 2)) : ptB f p = (fun _ => 0) ∧ ptO f p = false := by
  by_cases h2 : p 2 ≤ 2
  · obtain ⟨a, b⟩ := pt_yes (f := f) h2
    obtain ⟨c, d⟩ := put_no (fun q => h ⟨q, h2⟩)
    exact ⟨a.trans d, b.trans c⟩
  · exact pt_no h2
end Plain
theorem loadgA {ops : Array Oper} {rest : List Oper} {o : Oper} {a : Act} {w : World} {Q : Exit → Act → World → Prop} {x : Operand} {b : Nat} {f : Nat → Int} {t : TypeId}
    (hg : Blk w b 3 f t) (hw : Region.wanted o (yielded ops a.tmps) = true) (ho : o.op = .load 110 x) (hx : a.eval x = .pointer (some ⟨b, 0, none⟩))
    (h : wpList Try.prog ops Q rest (a.put o.dst (.agg (mk 3 f))) w) : wpList Try.prog ops Q (o :: rest) a w :=
  wpList_load_guarded hw _ x ho b 3 f t _ hx hg Try.underlying110 rfl sizeA h
theorem mk_pair (p : Nat → Int) : mk 2 (two (p 0) (p 1)) = mk 2 p := rfl
theorem storeNew2 {w : World} {ops : Array Oper} {rest : List Oper} {o : Oper} {a : Act} {Q : Exit → Act → World → Prop} {x y : Operand} {b : Nat} (g : Nat → Int) (hb : b = w.heap.size) (hgd : o.guard = none) (ho : o.op = .store 26 x y)
    (hx : a.eval x = .pointer (some ⟨b, 0, none⟩)) (hy : a.eval y = .agg (mk 2 g)) (h : wpList Try.prog ops Q rest (a.put o.dst undef) (w.alloc (.cells (mk 2 g) 26))) :
    wpList Try.prog ops Q (o :: rest) a (w.alloc (.cells (mk 2 fun _ => 0) 26)) := by
  subst hb
  refine storeC (Blk.new w 2 (fun _ => 0) 26) hgd ho hx hy ?_
  rw [World.setRow_alloc_new]
  exact h
/-- A placement can be made on a valid board. -/
def Can3 (f p : Nat → Int) : Prop := CellIn p ∧ (1 ≤ p 2 ∧ p 2 ≤ 2) ∧ f (placeAt p) = 0
instance (f p : Nat → Int) : Decidable (Can3 f p) := by unfold Can3; infer_instance
end Go.Proofs.Ytkocfpldgjfpeaa
