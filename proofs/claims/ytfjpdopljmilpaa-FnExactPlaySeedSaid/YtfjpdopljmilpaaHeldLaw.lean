/-
  Laws for the drawn regions of exact laws, walked by hand: what came in is read, and lies as it lay behind calls and new variables. Nothing is proved here of the program's functions.
-/
import Derived.Test.YtfjpdopljmilpaaBaseA
namespace Go.Proofs.Ytfjpdopljmilpaa
open Go.RowKit Plain
theorem execK {o : Oper} {ev : Operand → Value} {w : World} {b : Nat} {f : Nat → Int} {t : TypeId} {x : Operand} (hg : Blk w b 16 f t) (ho : o.op = .load 25 x) (hx : ev x = .pointer (some ⟨b, 0, none⟩)) :
    (execOp ev o).run Try.prog w = .ok (.value (.agg (mk 16 f))) w := exec_load_blk _ x ho hx hg Try.underlying25 rfl sizeK
/-- Two blocks that came in, and a third one, lie as they lay. -/
def Came (w W : World) (f g : Nat → Int) (t u : TypeId) : Prop := Blk W w.heap.size 16 f t ∧ Blk W (w.heap.size + 1) 2 g u ∧ Below w.heap.size w W
theorem Came.drew {w W : World} {f g : Nat → Int} {t u : TypeId} (h : Came w W f g t u) : Came w W.drew f g t u := ⟨h.1.drew, h.2.1.drew, h.2.2.drew⟩
theorem Came.below {w W W' : World} {f g : Nat → Int} {t u : TypeId} (h : Came w W f g t u) (hb : Below W.heap.size W W') : Came w W' f g t u := ⟨h.1.below hb h.1.lt, h.2.1.below hb h.2.1.lt, h.2.2.trans (hb.mono h.2.2.size)⟩
theorem Came.alloc {w W : World} {f g : Nat → Int} {t u : TypeId} (h : Came w W f g t u) (o : Obj) : Came w (W.alloc o) f g t u := ⟨h.1.alloc o, h.2.1.alloc o, h.2.2.alloc h.2.2.size o⟩
/-- And a result that was made. -/
def Made (w W : World) (f g : Nat → Int) (t u : TypeId) (b : Nat) (h : Nat → Int) (v : TypeId) : Prop := Came w W f g t u ∧ Blk W b 16 h v
theorem Made.drew {w W : World} {f g : Nat → Int} {t u : TypeId} {b : Nat} {k : Nat → Int} {v : TypeId} (h : Made w W f g t u b k v) : Made w W.drew f g t u b k v := ⟨h.1.drew, h.2.drew⟩
theorem Made.below {w W W' : World} {f g : Nat → Int} {t u : TypeId} {b : Nat} {k : Nat → Int} {v : TypeId} (h : Made w W f g t u b k v) (hb : Below W.heap.size W W') : Made w W' f g t u b k v := ⟨h.1.below hb, h.2.below hb h.2.lt⟩
theorem Made.alloc {w W : World} {f g : Nat → Int} {t u : TypeId} {b : Nat} {k : Nat → Int} {v : TypeId} (h : Made w W f g t u b k v) (o : Obj) : Made w (W.alloc o) f g t u b k v := ⟨h.1.alloc o, h.2.alloc o⟩
theorem Came.row {w W : World} {f g : Nat → Int} {t u : TypeId} (h : Came w W f g t u) {b : Nat} (hb : w.heap.size + 1 < b) (cs : Array Value) : Came w (W.setRow b cs) f g t u :=
  ⟨h.1.rowOther _ _ (by omega), h.2.1.rowOther _ _ (by omega), below_setRow h.2.2 (by omega) _⟩
theorem Made.row {w W : World} {f g : Nat → Int} {t u : TypeId} {b : Nat} {k : Nat → Int} {v : TypeId} (h : Made w W f g t u b k v) {c : Nat} (hc : w.heap.size + 1 < c) (hne : b ≠ c) (cs : Array Value) : Made w (W.setRow c cs) f g t u b k v :=
  ⟨h.1.row hc cs, h.2.rowOther _ _ hne⟩
theorem Came.lt {w W : World} {f g : Nat → Int} {t u : TypeId} (h : Came w W f g t u) : w.heap.size + 1 < W.heap.size := h.2.1.lt
theorem Made.lt {w W : World} {f g : Nat → Int} {t u : TypeId} {b : Nat} {k : Nat → Int} {v : TypeId} (h : Made w W f g t u b k v) : w.heap.size + 1 < W.heap.size := h.1.lt
theorem Made.blt {w W : World} {f g : Nat → Int} {t u : TypeId} {b : Nat} {k : Nat → Int} {v : TypeId} (h : Made w W f g t u b k v) : b < W.heap.size := h.2.lt
end Go.Proofs.Ytfjpdopljmilpaa
