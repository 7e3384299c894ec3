/-
  The walk inside a round: whole loads and stores there; what a round must keep for an iterator over placements; functions that end with several loops over iterators behind them. Nothing is proved here of the program's functions.
-/
import Derived.Test.YtblcojacmjbjcabTripKit
import Derived.RangeFuncNested
import Derived.RangeFuncBound
import Derived.RangeFuncCalls
import Derived.RangeFuncLeaves
import Derived.Shelf.Abstract
import Derived.Shelf.RegionOpen
import Derived.OwnWalkIn
import Derived.TacticsInMore
import Derived.LoopNIn
import Derived.LoopIn
import Derived.BigRegionIn
namespace Go.Proofs.Ytblcojacmjbjcab
open Go.RowKit Go.Shelf Plain
set_option linter.unusedVariables false
set_option linter.unusedSimpArgs false

/-- An operation that hands back a value, inside a fence. -/
theorem wpListIn_exec {F : Fence} {n : Nat} {P : Program} {w w' : World} {ops : Array Oper} {rest : List Oper} {o : Oper} {a : Act} {Q : Exit → Act → World → Prop} {v : Value}
    (hg : o.guard = none) (hd : ∀ c, o.op ≠ .defer c) (ha : o.about P w a.eval = none) (hrun : (execOp a.eval o).run P w = .ok (.value v) w')
    (hK : wpListIn F n P ops Q rest (a.put o.dst v) w') : wpListIn F n P ops Q (o :: rest) a w := by
  refine wpListIn_plain hg fun K hK' => ?_
  unfold Oper.wpIn
  refine ⟨fun f hf => (by rw [ha] at hf; cases hf), ?_⟩
  rw [Oper.semAt_plain F _ _ hd, hrun]
  exact hK' _ _ hK
theorem loadIn {F : Fence} {n : Nat} {P : Program} {w : World} {ops : Array Oper} {rest : List Oper} {o : Oper} {a : Act} {Q : Exit → Act → World → Prop} {x : Operand} {b m : Nat} {f : Nat → Int} {t ty : TypeId} {d : TypeDesc}
    (hg : Blk w b m f t) (hgd : o.guard = none) (ho : o.op = .load ty x) (hx : a.eval x = .pointer (some ⟨b, 0, none⟩)) (hu : P.underlying ty = some d) (hr : d.isRow = true) (hi : (P.info? ty).map (·.size) = some m)
    (h : wpListIn F n P ops Q rest (a.put o.dst (.agg (mk m f))) w) : wpListIn F n P ops Q (o :: rest) a w :=
  wpListIn_exec hgd (fun c e => by rw [ho] at e; cases e) (by simp [Oper.about, ho]) (exec_load_blk ty x ho hx hg hu hr hi) h
theorem loadAtIn {F : Fence} {n : Nat} {P : Program} {w : World} {ops : Array Oper} {rest : List Oper} {o : Oper} {a : Act} {Q : Exit → Act → World → Prop} {x : Operand} {b N off m : Nat} {f : Nat → Int} {ty : TypeId} {d : TypeDesc}
    (hg : CAt w b N f) (hm : off + m ≤ N) (hgd : o.guard = none) (ho : o.op = .load ty x) (hx : a.eval x = .pointer (some ⟨b, off, none⟩)) (hu : P.underlying ty = some d) (hr : d.isRow = true) (hi : (P.info? ty).map (·.size) = some m)
    (h : wpListIn F n P ops Q rest (a.put o.dst (.agg (mk m fun i => f (off + i)))) w) : wpListIn F n P ops Q (o :: rest) a w :=
  wpListIn_exec hgd (fun c e => by rw [ho] at e; cases e) (by simp [Oper.about, ho]) (exec_load_at ty x ho hx hg hm hu hr hi) h
theorem storeIn {F : Fence} {n : Nat} {P : Program} {w : World} {ops : Array Oper} {rest : List Oper} {o : Oper} {a : Act} {Q : Exit → Act → World → Prop} {x y : Operand} {b m : Nat} {f g : Nat → Int} {t ty : TypeId}
    (hg : Blk w b m f t) (hgd : o.guard = none) (ho : o.op = .store ty x y) (hx : a.eval x = .pointer (some ⟨b, 0, none⟩)) (hy : a.eval y = .agg (mk m g)) (hi : (P.info? ty).map (·.size) = some m)
    (h : wpListIn F n P ops Q rest (a.put o.dst undef) (w.setRow b (mk m g))) : wpListIn F n P ops Q (o :: rest) a w := by
  refine wpListIn_plain hgd fun K hK' => ?_
  have hrun := run_storeVar_row (P := P) w b t ty _ (mk m g) hg (by rw [mk_size]; exact hi) (by rw [mk_size, mk_size]) (mk_one g)
  unfold Oper.wpIn
  refine ⟨fun f hf => (by simp [Oper.about, ho] at hf), ?_⟩
  rw [Oper.semAt_plain F _ _ (fun c e => by rw [ho] at e; cases e)]
  unfold execOp
  simp only [ho, hx, hy, Instr.storeAt, Instr.sureAddr, Sem.run_bind, Sem.run_pure, Result.andThen_ok, hrun]
  exact hK' _ _ h
/-- What a round must keep for an iterator over placements: one block, and every row of cells. -/
structure Keeps2 (B : Nat) (W W' : World) : Prop where
  size : W.heap.size ≤ W'.heap.size
  one : W'.heap[B]? = W.heap[B]?
  rows : ∀ (k : Nat) (cs : Array Value) (z : Nat × Nat), W.heap[k]? = some (.cells cs 42 z) → W'.heap[k]? = W.heap[k]?
theorem Keeps2.trans {B : Nat} {a b c : World} (h : Keeps2 B a b) (k : Keeps2 B b c) : Keeps2 B a c :=
  ⟨Nat.le_trans h.size k.size, k.one.trans h.one, fun j cs z e => (k.rows j cs z ((h.rows j cs z e).trans e)).trans (h.rows j cs z e)⟩
theorem Keeps2.grown {B : Nat} {W W' : World} {row : Option Nat} (hB : B < W.heap.size) (hg : W.grownBy W' row) (hr : ∀ r, row = some r → r ≠ B ∧ ∀ cs z, W.heap[r]? ≠ some (.cells cs 42 z)) : Keeps2 B W W' :=
  ⟨hg.size, hg.block B hB (fun e => (hr B e.symm).1 rfl), fun k cs z e => hg.block k (Array.getElem?_eq_some_iff.1 e).1 (fun q => (hr k q.symm).2 cs z e)⟩
theorem Keeps2.below {B : Nat} {W W' : World} (hB : B < W.heap.size) (hb : Below W.heap.size W W') : Keeps2 B W W' := Keeps2.grown hB (below_grown hb) (fun r e => by cases e)
theorem Keeps2.setCell {B : Nat} {W : World} (hB : B < W.heap.size) {b : Nat} {t : TypeId} {cs : Array Value} {z : Nat × Nat} (hb : W.heap[b]? = some (.cells cs t z)) (ht : t ≠ 42) (hne : b ≠ B) (v : Value) : Keeps2 B W (W.setCell ⟨b, 0, none⟩ v) :=
  Keeps2.grown hB (grownBy_setCell' W b v) (fun r e => by cases e; exact ⟨hne, fun cs' z' q => by rw [hb] at q; cases q; exact ht rfl⟩)
theorem Keeps2.row {B : Nat} {W : World} (hB : B < W.heap.size) {b n : Nat} {f : Nat → Int} {t : TypeId} (hb : Blk W b n f t) (ht : t ≠ 42) (hne : b ≠ B) (c : Array Value) : Keeps2 B W (W.setRow b c) :=
  Keeps2.grown hB (row := some b) ⟨rfl, rfl, rfl, by simp, fun k _ hk => setRow_other W b k _ (fun e => hk (by rw [e]))⟩ (fun r e => by cases e; exact ⟨hne, fun cs' z' q => by rw [show W.heap[b]? = _ from hb] at q; cases q; exact ht rfl⟩)
theorem Keeps2.book {B n₀ : Nat} (hB : B < n₀) (W : World) (l : Nat) (o o' : Obj) (hl : n₀ ≤ l) (h : W.heap[l]? = some o) (hc : o.isCells = false) (_ : o.isWalk = false) : Keeps2 B W (W.putObj l o') :=
  Keeps2.grown (by have := (Array.getElem?_eq_some_iff.1 h).1; omega) (grownBy_putObj' W l o') (fun r e => by cases e; exact ⟨by omega, fun cs z q => by rw [h] at q; cases q; cases hc⟩)
theorem Keeps2.cells {B : Nat} {W W' : World} (h : Keeps2 B W W') {base n : Nat} {v : Value} {xs : List Int} (ho : OwnsCells W base v n xs) : OwnsCells W' base v n xs := by
  refine ⟨ho.1, ?_⟩
  rcases ho.2 with q | ⟨g, cap, cur, q, hb, hg, r⟩
  · exact .inl q
  · exact .inr ⟨g, cap, cur, q, hb, (h.rows _ _ _ hg).trans hg, r⟩
theorem Keeps2.pair {B : Nat} {W W' : World} (h : Keeps2 B W W') {b n : Nat} {f : Nat → Int} (hb : Blk W b n f 42) : Blk W' b n f 42 := (h.rows _ _ _ hb).trans hb
theorem Keeps2.blk {B : Nat} {W W' : World} (h : Keeps2 B W W') {n : Nat} {f : Nat → Int} {t : TypeId} (hb : Blk W B n f t) : Blk W' B n f t := h.one.trans hb
/-- Blocks for deferred calls, one a loop that lies behind. -/
def Marks (w : World) (n₀ : Nat) (ds : List Deferred) : Prop := ∃ Ds : List Nat, ds = Ds.map (fun D => { target := .collected D, args := #[] }) ∧ Ds.Nodup ∧ ∀ D, D ∈ Ds → n₀ ≤ D ∧ w.heap[D]? = some (.deferred (some []))
end Go.Proofs.Ytblcojacmjbjcab
