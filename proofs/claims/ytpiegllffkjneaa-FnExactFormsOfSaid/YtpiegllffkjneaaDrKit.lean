/-
  What a call leaves that turns nothing that was there, and draws no less than none: for the comparing functions that are handed to a sort. Nothing is proved here of the program.
-/
import Derived.Test.YtpiegllffkjneaaTypes
import Derived.Sort.Grow
namespace Go.Proofs.Ytpiegllffkjneaa.Dr
open Go.RowKit

structure Below (B : Nat) (w w' : World) : Prop where
  low : Go.RowKit.Below B w w'
  dr : w.drawn ≤ w'.drawn
theorem Below.refl (B : Nat) (w : World) : Below B w w := ⟨Go.RowKit.Below.refl B w, Nat.le_refl _⟩
theorem Below.size {B : Nat} {w w' : World} (h : Below B w w') : w.heap.size ≤ w'.heap.size := h.low.size
theorem Below.trans {B : Nat} {a b c : World} (h : Below B a b) (k : Below B b c) : Below B a c := ⟨h.low.trans k.low, Nat.le_trans h.dr k.dr⟩
theorem Below.mono {B B' : Nat} {w w' : World} (h : Below B w w') (hB : B' ≤ B) : Below B' w w' := ⟨h.low.mono hB, h.dr⟩
theorem Below.alloc {B : Nat} {a w : World} (h : Below B a w) (hB : B ≤ w.heap.size) (o : Obj) : Below B a (w.alloc o) := ⟨h.low.alloc hB o, h.dr⟩
theorem Below.drew {B : Nat} {a w : World} (h : Below B a w) : Below B a w.drew := ⟨h.low.drew, Nat.le_succ_of_le h.dr⟩
/-- Such a call is a growth, draws ahead of it. -/
theorem Below.grow {w w' : World} (h : Below w.heap.size w w') : ∃ q os, w' = Go.Sort.grow (w.drewN q) os := by
  obtain ⟨⟨h1, h2, h3, h4, h5⟩, h6⟩ := h
  refine ⟨w'.drawn - w.drawn, w'.heap.extract w.heap.size w'.heap.size, ?_⟩
  have hh : w'.heap = w.heap ++ w'.heap.extract w.heap.size w'.heap.size := by
    apply Array.ext_getElem?
    intro k
    by_cases hk : k < w.heap.size
    · rw [h5 k hk, Array.getElem?_append_left hk]
    · rw [Array.getElem?_append_right (by omega), Array.getElem?_extract]
      by_cases hk2 : k < w'.heap.size
      · rw [if_pos (by omega)]; congr 1; omega
      · rw [if_neg (by omega), Array.getElem?_eq_none (by omega)]
  have hd : w'.drawn = w.drawn + (w'.drawn - w.drawn) := by omega
  obtain ⟨a1, a2, a3, a4, a5⟩ := w
  obtain ⟨b1, b2, b3, b4, b5⟩ := w'
  simp only at h1 h2 h3 hh hd
  subst h1 h2 h3
  simp only [Go.Sort.grow, World.drewN]
  rw [← hh, ← hd]
end Go.Proofs.Ytpiegllffkjneaa.Dr
namespace Go.Proofs.Ytpiegllffkjneaa
theorem Blk.bew {B b n : Nat} {w w' : World} {f : Nat → Int} {t : TypeId} (h : Blk w b n f t) (hb : Dr.Below B w w') (hB : b < B) : Blk w' b n f t := h.below hb.low hB
end Go.Proofs.Ytpiegllffkjneaa
