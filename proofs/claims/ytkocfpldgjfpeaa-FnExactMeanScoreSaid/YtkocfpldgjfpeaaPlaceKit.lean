/-
  Loops of the reference over all placements on a board: what stands in them. Nothing is proved here of the program's functions.
-/
import Derived.Test.YtkocfpldgjfpeaaPlaceTile
import Derived.Test.YtkocfpldgjfpeaaSpecPlaces
import Derived.Test.YtkocfpldgjfpeaaOver
namespace Go.Proofs.Ytkocfpldgjfpeaa
open Go.RowKit Plain
set_option linter.unusedVariables false
set_option linter.unusedSimpArgs false
theorem take_step {α : Type} {L : List α} {k : Nat} {p : α} (h : L[k]? = some p) : L.take (k + 1) = L.take k ++ [p] := by
  have hi := (List.getElem?_eq_some_iff.1 h).1
  rw [List.take_succ_eq_append_getElem hi, (List.getElem?_eq_some_iff.1 h).2]
theorem pl_at {L : List (Nat × Nat)} {k : Nat} {p : Nat × Nat} (h : L[k]? = some p) : mk 3 (fun j => flatF (plL L) (k * 3 + j)) = mk 3 (plF p) := by
  have h2 : (plL L)[k]? = some (cl 3 (plF p)) := by unfold plL; rw [List.getElem?_map, h]; rfl
  exact mk_congr fun j hj => (flatF_at (pl_all L) h2 hj).trans (fn_cl _ j hj)
theorem cellIn_pl {f : Nat → Int} {p : Nat × Nat} (h : PlOk f p) : CellIn (plF p) := by
  have h1 := h.1
  refine ⟨?_, ?_⟩
  · show (0 : Int) ≤ ((p.1 / 4 : Nat) : Int) ∧ ((p.1 / 4 : Nat) : Int) ≤ 3; omega
  · show (0 : Int) ≤ ((p.1 % 4 : Nat) : Int) ∧ ((p.1 % 4 : Nat) : Int) ≤ 3; omega
theorem place_pl (p : Nat × Nat) : placeAt (plF p) = p.1 := by
  show ((p.1 / 4 : Nat) : Int).toNat * 4 + ((p.1 % 4 : Nat) : Int).toNat = p.1
  omega
theorem own_not_blk {w : World} {b : Nat} {e t : TypeId} {s n c m : Nat} {v : Value} {xs : List Value} {f : Nat → Int} (h : w.ownsRow b e s v n xs) (k : Blk w c m f t) (he : e ≠ t) : v.ownBlock ≠ some c := by
  intro hv
  rcases h.2 with ⟨rfl, _⟩ | ⟨g, cap, cur, rfl, _, hg, _⟩
  · simp [Value.ownBlock] at hv
  · simp only [Value.ownBlock, Option.some.injEq] at hv
    subst hv
    rw [show w.heap[g]? = _ from k] at hg
    cases hg
    exact he rfl
theorem CAt.grownP {w w' : World} {g n : Nat} {h : Nat → Int} {row : Option Nat} (r : CAt w g n h) (hg : w.grownBy w' row) (hne : some g ≠ row) : CAt w' g n h :=
  ⟨Nat.lt_of_lt_of_le r.1 hg.size, fun j hj => (World.cell?_of_block (hg.block g r.1 hne)).trans (r.2 j hj)⟩
theorem grown_rowP {w : World} {b n : Nat} {f : Nat → Int} {t : TypeId} (k : Blk w b n f t) (cs : Array Value) : w.grownBy (w.setRow b cs) (some b) := by
  refine ⟨rfl, rfl, rfl, ?_, fun j hj hne => ?_⟩
  · simp [World.setRow]
  · exact setRow_other w b j cs (fun e => hne (by rw [e]))
end Go.Proofs.Ytkocfpldgjfpeaa
