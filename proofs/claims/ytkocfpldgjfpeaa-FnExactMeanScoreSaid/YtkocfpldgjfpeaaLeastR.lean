/-
  The contract of the program's leastReply: the first placement for which a number is the least.
-/
import Derived.Test.YtkocfpldgjfpeaaOverR
import Derived.Test.YtkocfpldgjfpeaaPlaceKit
namespace Go.Proofs.Ytkocfpldgjfpeaa
open Go.RowKit Go.Shelf Plain
attribute [local go_sem] store_new Oper.semAt_some
set_option linter.unusedVariables false
set_option linter.unusedSimpArgs false

theorem heap_own {β : Type} (b : Nat) (F : β → Array Value) (t : TypeId) : Own (fun (s : β) W => W.heap[b]? = some (.cells (F s) t (0, 0))) := fun s X Y row hs hg hrow =>
  (hg.block b (Array.getElem?_eq_some_iff.1 hs).1 (fun e => by obtain ⟨o, ho, hc⟩ := hrow b e.symm; rw [hs] at ho; cases ho; cases hc)).trans hs
/-- A post that no panic meets. -/
def NoPanic (Q : Exit → Act → World → Prop) : Exit → Act → World → Prop
  | .panic _, _, _ => False
  | .outgrown, _, _ => False
  | e, a, w => Q e a w
theorem NoPanic.out {Q : Exit → Act → World → Prop} : ∀ (e : Exit) (a : Act) (w : World), NoPanic Q e a w → Q e a w
  | .normal, _, _, h | .exit _, _, _, h | .goto _, _, _, h | .ret, _, _, h => h
theorem results_ctt {P : Program} {fn : Func} {tmps : Array Value} {w : World} {p q r : Tmp} {ty t : TypeId} {b n : Nat} {f : Nat → Int} {d : TypeDesc}
    (hg : Blk w b n f t) (hu : P.underlying ty = some d) (hd : d.isRow = true) (hi : (P.info? ty).map (·.size) = some n)
    (h : fn.results = #[.cell p ty, .tmp q, .tmp r]) (hp : tmps.getD p undef = .pointer (some ⟨b, 0, none⟩)) :
    (results fn tmps).run P w = .ok (.tuple #[.agg (mk n f), tmps.getD q undef, tmps.getD r undef]) w := by
  have hp' : tmps[p]?.getD undef = .pointer (some ⟨b, 0, none⟩) := by simpa using hp
  simp [results, h, hp', asAddr, run_load_blk hg hu hd hi]
theorem sne {a b : Nat} (h : a ≠ b) : some a ≠ some b := fun e => h (Option.some.inj e)
/-- What the loop of leastReply holds: the first placement so far, its number, whether there is one; and what it reads. -/
structure HoldsL (f : Nat → Int) (bc br b1 b2 b3 B : Nat) (fv : Value) (S : Lst) (W : World) : Prop where
  one : Blk W b1 3 (plF S.p) 110
  num : Boxed W b2 3 (.int .i64 S.v)
  yes : Boxed W b3 4 (.bool S.ok)
  cnt : Boxed W bc 67 fv
  res : Blk W br 3 (fun _ => 0) 110
  brd : Blk W B 16 f 29
theorem holdsL_own (f : Nat → Int) (c : Nat × Nat → Int) (bc br b1 b2 b3 B : Nat) (fv : Value) : Own (fun (pre : List (Pl f)) W => HoldsL f bc br b1 b2 b3 B fv (lsF c (vals pre)) W) := fun s X Y row h hg hr =>
  ⟨heap_own _ (fun (_ : Unit) => _) _ () X Y row h.one hg hr, heap_own _ (fun (_ : Unit) => _) _ () X Y row h.num hg hr, heap_own _ (fun (_ : Unit) => _) _ () X Y row h.yes hg hr,
   heap_own _ (fun (_ : Unit) => _) _ () X Y row h.cnt hg hr, heap_own _ (fun (_ : Unit) => _) _ () X Y row h.res hg hr, heap_own _ (fun (_ : Unit) => _) _ () X Y row h.brd hg hr⟩
theorem holdsL_grown {f : Nat → Int} {bc br b1 b2 b3 B : Nat} {fv : Value} {S : Lst} {W W' : World} (h : HoldsL f bc br b1 b2 b3 B fv S W) (hg : W.grownBy W' none) : HoldsL f bc br b1 b2 b3 B fv S W' :=
  ⟨h.one.grown hg (by simp), h.num.kept hg (by simp), h.yes.kept hg (by simp), h.cnt.kept hg (by simp), h.res.grown hg (by simp), h.brd.grown hg (by simp)⟩
/-- Behind the three stores of a round that has found a lesser one. -/
theorem holdsL_put {f : Nat → Int} {n₀ bc br b1 b2 b3 B : Nat} {fv : Value} {S : Lst} {W : World} (h : HoldsL f bc br b1 b2 b3 B fv S W) (hb : (n₀ ≤ bc ∧ bc < br ∧ br < b1) ∧ b1 < b2 ∧ b2 < b3 ∧ b3 < B) (p : Nat × Nat) (v : Int) :
    HoldsL f bc br b1 b2 b3 B fv ⟨p, v, true⟩ (((W.setRow b1 (mk 3 (plF p))).setCell ⟨b2, 0, none⟩ (.int .i64 v)).setCell ⟨b3, 0, none⟩ (.bool true)) ∧
    Keeps2 B W (((W.setRow b1 (mk 3 (plF p))).setCell ⟨b2, 0, none⟩ (.int .i64 v)).setCell ⟨b3, 0, none⟩ (.bool true)) ∧
    KeepsOthers W (((W.setRow b1 (mk 3 (plF p))).setCell ⟨b2, 0, none⟩ (.int .i64 v)).setCell ⟨b3, 0, none⟩ (.bool true)) ∧
    Below n₀ W (((W.setRow b1 (mk 3 (plF p))).setCell ⟨b2, 0, none⟩ (.int .i64 v)).setCell ⟨b3, 0, none⟩ (.bool true)) := by
  obtain ⟨⟨h0, h1, h2⟩, h3, h4, h5⟩ := hb
  have g1 := grown_rowP h.one (mk 3 (plF p))
  have g2 := grownBy_setCell' (W.setRow b1 (mk 3 (plF p))) b2 (.int .i64 v)
  have g3 := grownBy_setCell' ((W.setRow b1 (mk 3 (plF p))).setCell ⟨b2, 0, none⟩ (.int .i64 v)) b3 (.bool true)
  have ne : ∀ {a b : Nat}, a ≠ b → some a ≠ some b := fun h e => h (Option.some.inj e)
  have n1 : Boxed (W.setRow b1 (mk 3 (plF p))) b2 3 (.int .i64 S.v) := h.num.kept g1 (ne (by omega))
  have y1 : Boxed (W.setRow b1 (mk 3 (plF p))) b3 4 (.bool S.ok) := h.yes.kept g1 (ne (by omega))
  have k1 : Blk (W.setRow b1 (mk 3 (plF p))) B 16 f 29 := h.brd.grown g1 (ne (by omega))
  have y2 := y1.kept g2 (ne (by omega))
  have k2 := k1.grown g2 (ne (by omega))
  refine ⟨⟨?_, ?_, y2.set _, ?_, ?_, k2.grown g3 (ne (by omega))⟩, ?_, ?_, ?_⟩
  · exact ((h.one.row 3 (plF p)).grown g2 (ne (by omega))).grown g3 (ne (by omega))
  · exact (n1.set _).kept g3 (ne (by omega))
  · exact ((h.cnt.kept g1 (ne (by omega))).kept g2 (ne (by omega))).kept g3 (ne (by omega))
  · exact ((h.res.grown g1 (ne (by omega))).grown g2 (ne (by omega))).grown g3 (ne (by omega))
  · exact ((Keeps2.row h.brd.lt h.one (by decide) (by omega) _).trans (Keeps2.setCell k1.lt n1 (by decide) (by omega) _)).trans (Keeps2.setCell k2.lt y2 (by decide) (by omega) _)
  · exact ((KeepsOthers.of_grownBy g1 (fun j o e hj => by cases e; rw [show W.heap[b1]? = _ from h.one] at hj; cases hj; rfl)).trans (KeepsOthers.setCell _ _ _)).trans (KeepsOthers.setCell _ _ _)
  · exact (((Below.refl n₀ W).grown g1 (by have := h.one.lt; omega) (fun j e => by cases e; omega)).setCell (p := ⟨b2, 0, none⟩) (by dsimp only; omega) _).setCell (p := ⟨b3, 0, none⟩) (by dsimp only; omega) _
end Go.Proofs.Ytkocfpldgjfpeaa
