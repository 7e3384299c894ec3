/-
  Laws for the drawn regions of exact laws, walked by hand: what came in is read, and lies as it lay behind calls and new variables. Nothing is proved here of the program's functions.
-/
import Derived.Test.YtlboglcpbbnbcaaHeldLaw
import Derived.Test.YtlboglcpbbnbcaaTripKit
namespace Go.Proofs.Ytlboglcpbbnbcaa
open Go.RowKit Plain
theorem execA3 {o : Oper} {ev : Operand → Value} {w : World} {b : Nat} {f : Nat → Int} {t : TypeId} {x : Operand} (hg : Blk w b 3 f t) (ho : o.op = .load 34 x) (hx : ev x = .pointer (some ⟨b, 0, none⟩)) :
    (execOp ev o).run Try.prog w = .ok (.value (.agg (mk 3 f))) w := exec_load_blk _ x ho hx hg Try.underlying34 rfl sizeA
/-- Two blocks that came in, and a third one, lie as they lay. -/
def Came3 (w W : World) (f g : Nat → Int) (t u : TypeId) : Prop := Blk W w.heap.size 16 f t ∧ Blk W (w.heap.size + 1) 3 g u ∧ Below w.heap.size w W
theorem Came3.drew {w W : World} {f g : Nat → Int} {t u : TypeId} (h : Came3 w W f g t u) : Came3 w W.drew f g t u := ⟨h.1.drew, h.2.1.drew, h.2.2.drew⟩
theorem Came3.below {w W W' : World} {f g : Nat → Int} {t u : TypeId} (h : Came3 w W f g t u) (hb : Below W.heap.size W W') : Came3 w W' f g t u := ⟨h.1.below hb h.1.lt, h.2.1.below hb h.2.1.lt, h.2.2.trans (hb.mono h.2.2.size)⟩
theorem Came3.alloc {w W : World} {f g : Nat → Int} {t u : TypeId} (h : Came3 w W f g t u) (o : Obj) : Came3 w (W.alloc o) f g t u := ⟨h.1.alloc o, h.2.1.alloc o, h.2.2.alloc h.2.2.size o⟩
/-- And a result that was made. -/
def Made3 (w W : World) (f g : Nat → Int) (t u : TypeId) (b : Nat) (h : Nat → Int) (v : TypeId) : Prop := Came3 w W f g t u ∧ Blk W b 16 h v
theorem Made3.drew {w W : World} {f g : Nat → Int} {t u : TypeId} {b : Nat} {k : Nat → Int} {v : TypeId} (h : Made3 w W f g t u b k v) : Made3 w W.drew f g t u b k v := ⟨h.1.drew, h.2.drew⟩
theorem Made3.below {w W W' : World} {f g : Nat → Int} {t u : TypeId} {b : Nat} {k : Nat → Int} {v : TypeId} (h : Made3 w W f g t u b k v) (hb : Below W.heap.size W W') : Made3 w W' f g t u b k v := ⟨h.1.below hb, h.2.below hb h.2.lt⟩
theorem Made3.alloc {w W : World} {f g : Nat → Int} {t u : TypeId} {b : Nat} {k : Nat → Int} {v : TypeId} (h : Made3 w W f g t u b k v) (o : Obj) : Made3 w (W.alloc o) f g t u b k v := ⟨h.1.alloc o, h.2.alloc o⟩
theorem Came3.row {w W : World} {f g : Nat → Int} {t u : TypeId} (h : Came3 w W f g t u) {b : Nat} (hb : w.heap.size + 1 < b) (cs : Array Value) : Came3 w (W.setRow b cs) f g t u :=
  ⟨h.1.rowOther _ _ (by omega), h.2.1.rowOther _ _ (by omega), below_setRow h.2.2 (by omega) _⟩
theorem Made3.row {w W : World} {f g : Nat → Int} {t u : TypeId} {b : Nat} {k : Nat → Int} {v : TypeId} (h : Made3 w W f g t u b k v) {c : Nat} (hc : w.heap.size + 1 < c) (hne : b ≠ c) (cs : Array Value) : Made3 w (W.setRow c cs) f g t u b k v :=
  ⟨h.1.row hc cs, h.2.rowOther _ _ hne⟩
theorem Came3.lt {w W : World} {f g : Nat → Int} {t u : TypeId} (h : Came3 w W f g t u) : w.heap.size + 1 < W.heap.size := h.2.1.lt
theorem Made3.lt {w W : World} {f g : Nat → Int} {t u : TypeId} {b : Nat} {k : Nat → Int} {v : TypeId} (h : Made3 w W f g t u b k v) : w.heap.size + 1 < W.heap.size := h.1.lt
theorem Made3.blt {w W : World} {f g : Nat → Int} {t u : TypeId} {b : Nat} {k : Nat → Int} {v : TypeId} (h : Made3 w W f g t u b k v) : b < W.heap.size := h.2.lt
theorem cells3 : Try.prog.cellsOf 34 = 3 := by kernel_rfl
end Go.Proofs.Ytlboglcpbbnbcaa
