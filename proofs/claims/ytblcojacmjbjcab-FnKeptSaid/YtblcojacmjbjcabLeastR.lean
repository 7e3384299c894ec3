/-
  The contract of the program's leastReply: the first placement for which a number is the least.
-/
import Derived.Test.YtblcojacmjbjcabOverR
import Derived.Test.YtblcojacmjbjcabPlaceKit
namespace Go.Proofs.Ytblcojacmjbjcab
open Go.RowKit Go.Shelf Plain
attribute [local go_sem] store_new Oper.semAt_some
set_option linter.unusedVariables false
set_option linter.unusedSimpArgs false

theorem heap_own {β : Type} (b : Nat) (F : β → Array Value) (t : TypeId) : Own (fun (s : β) W => W.heap[b]? = some (.cells (F s) t (0, 0))) := fun s X Y row hs hg hrow =>
  (hg.block b (Array.getElem?_eq_some_iff.1 hs).1 (fun e => by obtain ⟨o, ho, hc⟩ := hrow b e.symm; rw [hs] at ho; cases ho; cases hc)).trans hs
/-- A post that no panic meets. -/
def NoPanic (Q : Exit → Act → World → Prop) : Exit → Act → World → Prop
  | .panic _, _, _ => False
  | .outgrown, _, _ => False
  | e, a, w => Q e a w
theorem sne {a b : Nat} (h : a ≠ b) : some a ≠ some b := fun e => h (Option.some.inj e)
/-- What the loop of leastReply holds: the first placement so far, its number, whether there is one; and what it reads. -/
structure HoldsL (f : Nat → Int) (bc br b1 b2 b3 B : Nat) (fv : Value) (S : Lst) (W : World) : Prop where
  one : Blk W b1 3 (plF S.p) 254
  num : Boxed W b2 3 (.int .i64 S.v)
  yes : Boxed W b3 4 (.bool S.ok)
  cnt : Boxed W bc 110 fv
  res : Blk W br 3 (fun _ => 0) 254
  brd : Blk W B 16 f 47
end Go.Proofs.Ytblcojacmjbjcab
