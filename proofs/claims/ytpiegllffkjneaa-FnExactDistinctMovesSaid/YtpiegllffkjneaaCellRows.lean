/-
  Rows of cells that are read, and the contracts of the laws' helpers on them: eqIntA2S, markIntA2S, heldIntA2S.
-/
import Derived.Test.YtpiegllffkjneaaIntRows
import Derived.Test.YtpiegllffkjneaaEmpty
import Derived.Test.YtpiegllffkjneaaConv
import Derived.Deep.RegionHeld3
namespace Go.Proofs.Ytpiegllffkjneaa
open Go.RowKit Plain

attribute [local go_sem] Oper.semAt_some

/-- n integers lie in a block from its begin on. -/
def CAt (w : World) (g n : Nat) (h : Nat → Int) : Prop := g < w.heap.size ∧ ∀ j, j < n → w.cell? ⟨g, j, none⟩ = some (.int .i64 (h j))
theorem CAt.below {w w' : World} {g n : Nat} {h : Nat → Int} (r : CAt w g n h) (hb : Below w.heap.size w w') : CAt w' g n h :=
  ⟨Nat.lt_of_lt_of_le r.1 hb.size, fun j hj => (hb.cell (p := ⟨g, j, none⟩) r.1).trans (r.2 j hj)⟩
/-- The value v is a slice of n cells, told by a function of their numbers' places. -/
def CRow (w : World) (v : Value) (n : Nat) (h : Nat → Int) : Prop := ∃ g cap, v = .slice (some ⟨g, 0, none⟩) n cap ∧ n ≤ cap ∧ CAt w g (n * 2) h
theorem CRow.below {w w' : World} {v : Value} {n : Nat} {h : Nat → Int} (r : CRow w v n h) (hb : Below w.heap.size w w') : CRow w' v n h := by
  obtain ⟨g, cap, rfl, h0, h1⟩ := r
  exact ⟨g, cap, rfl, h0, h1.below hb⟩
theorem CRow.of_own {w : World} {base g cap n : Nat} {h : Nat → Int} {t : TypeId} (o : w.ownsRow base t 2 (.slice (some ⟨g, 0, none⟩) n cap) n (mk (n * 2) h).toList) : CRow w (.slice (some ⟨g, 0, none⟩) n cap) n h := by
  have hlt := (o.lt g rfl).2
  have hcap : n ≤ cap := by
    rcases o.2 with ⟨h2, _⟩ | ⟨g', cap', cur, h2, _, _, h3, _⟩
    · cases h2
    · cases h2; exact h3
  refine ⟨g, cap, rfl, hcap, hlt, fun j hj => ?_⟩
  rw [o.cellAt j hj, Array.getElem?_toList]
  exact mk_get h hj
theorem heldC_step {w W w6 : World} {b c n : Nat} {f : Nat → Int} (h : CAt W b n f ∧ CAt W c n f ∧ Below w.heap.size w W) (hb : Below W.heap.size W w6) : CAt w6 b n f ∧ CAt w6 c n f ∧ Below w.heap.size w w6 :=
  ⟨h.1.below hb, h.2.1.below hb, h.2.2.trans (hb.mono h.2.2.size)⟩

end Go.Proofs.Ytpiegllffkjneaa
