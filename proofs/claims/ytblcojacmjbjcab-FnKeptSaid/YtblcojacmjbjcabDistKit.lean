/-
  What is needed beside rows and maps that one call owns. Nothing is proved here of the program's functions.
-/
import Derived.Test.YtblcojacmjbjcabMapKit
import Derived.Test.YtblcojacmjbjcabRowsKit
import Derived.Test.YtblcojacmjbjcabPlainA
namespace Go.Proofs.Ytblcojacmjbjcab.Plain
/-- The first form behind a slide. -/
noncomputable def ffs (f : Nat → Int) (d : Int) : List Int := cl 16 (fstF (slideB f d.toNat))
/-- What has been seen behind the first k of some slides, and which of these are told. -/
noncomputable def dm (f : Nat → Int) (M : List Int) : Nat → List (List Int) × List Int
  | 0 => ([], [])
  | k + 1 => match M[k]? with
    | none => dm f M k
    | some d => if ffs f d ∈ (dm f M k).1 then dm f M k else ((dm f M k).1 ++ [ffs f d], (dm f M k).2 ++ [d])
/-- The same put in order. -/
noncomputable def di (f : Nat → Int) (M : List Int) : Nat → List (List Int)
  | 0 => []
  | k + 1 => match M[k]? with
    | none => di f M k
    | some d => insL (lt 16) (di f M k) (ffs f d)
/-- What DistinctMoves returns. -/
noncomputable def dmR (f : Nat → Int) : List Int := if Vd f then (dm f (movL f 4) (movL f 4).length).2 else []
end Go.Proofs.Ytblcojacmjbjcab.Plain
namespace Go.Proofs.Ytblcojacmjbjcab
open Go.RowKit Plain
open Go.Maps (Keyed)

theorem CAt.grown {w w' : World} {g n : Nat} {h : Nat → Int} {row : Option Nat} (r : CAt w g n h) (hg : w.grownBy w' row) (hne : some g ≠ row) : CAt w' g n h := by
  have hb := hg.block g r.1 hne
  exact ⟨Nat.lt_of_lt_of_le r.1 hg.size, fun j hj => (World.cell?_of_block (w := w) hb).trans (r.2 j hj)⟩
theorem own_ne_own {w : World} {b b' : Nat} {e e' : TypeId} {s s' n n' : Nat} {v v' : Value} {xs xs' : List Value} (h : w.ownsRow b e s v n xs) (h' : w.ownsRow b' e' s' v' n' xs') (he : e ≠ e') : v.ownBlock = none ∨ v.ownBlock ≠ v'.ownBlock := by
  rcases h.2 with ⟨rfl, _⟩ | ⟨g, cap, cur, rfl, _, hg, _⟩
  · exact Or.inl rfl
  · refine Or.inr fun hv => ?_
    rcases h'.2 with ⟨rfl, _⟩ | ⟨g', cap', cur', rfl, _, hg', _⟩
    · simp [Value.ownBlock] at hv
    · simp only [Value.ownBlock, Option.some.injEq] at hv
      subst hv; rw [hg] at hg'; cases hg'; exact he rfl
end Go.Proofs.Ytblcojacmjbjcab
