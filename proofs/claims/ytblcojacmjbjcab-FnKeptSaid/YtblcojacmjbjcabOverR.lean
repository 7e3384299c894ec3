/-
  A loop over the placements on a valid board, and the rows of placements that such a loop fills. Nothing is proved here of the program's functions.
-/
import Derived.Test.YtblcojacmjbjcabReplies
import Derived.Maps.OwnIn
namespace Go.Proofs.Ytblcojacmjbjcab
open Go.RowKit Go.Shelf Plain
set_option linter.unusedVariables false
set_option linter.unusedSimpArgs false

theorem over_replies {n : Nat} (h2 : 2 ≤ n) {f : Nat → Int} (hV : Vd f) {B : Nat} {g : Operand} {ps : Array Tmp} {assign body : Code} {Q : Exit → Act → World → Prop} {a : Act} {w : World}
    (hg : a.eval g = .func (.func 297) #[] #[.pointer (some ⟨B, 0, none⟩)]) (hps : ps.size = 2) (hB : Blk w B 16 f 47)
    (I : List (Pl f) → World → Prop) (Ix : Code → List (Pl f) → World → Prop) (hI : OwnFrom w.heap.size I) (hIx : ∀ c, OwnFrom w.heap.size (Ix c)) (h0 : I [] w)
    (X : Pl f → Nat → Nat → World → Prop) (hX : ∀ x b c, OwnFrom w.heap.size (fun (_ : Unit) W => X x b c W)) (A : Pl f → Nat → Nat → Act)
    (hassign : ∀ (l : Nat) (pre : List (Pl f)) (x : Pl f) (W : World) (K : Act → World → Prop), I pre W → (∀ b c W', KeepsFrom w.heap.size W W' → Keeps2 B W W' → I pre W' → X x b c W' → K (A x b c) W') →
      assign.wpIn (Fence.wide.inRound l) (n - 1 - 1) Try.prog (Exit.then K (fun _ _ _ => False)) { tmps := (ps.zip #[.agg (mk 3 (plF x.1)), .agg (mk 16 (plB f x.1))]).foldl (fun t (p, v) => t.setIfInBounds p v) a.tmps, defers := [] } W)
    (hbody : ∀ (l : Nat) (pre : List (Pl f)) (x : Pl f) (b c : Nat) (W : World), w.heap.size ≤ l → (∃ r, W.heap[l]? = some (.loop r)) → I pre W → X x b c W → pre.length < empN f 16 * 2 →
      body.wpIn (Fence.wide.inRound l) (n - 1 - 1) Try.prog (ownPostG w.heap.size (Keeps2 B) I Ix (pre ++ [x]) W) (A x b c) W)
    (hdone : ∀ (D : Nat) (xs : List (Pl f)) (W : World), w.heap.size ≤ D → xs.map (·.1) = plA f → I xs W → W.heap[D]? = some (.deferred (some [])) → Q .normal { a with defers := { target := .collected D, args := #[] } :: a.defers } W)
    (hstop : ∀ (D : Nat) (c : Code) (pre : List (Pl f)) (W : World), w.heap.size ≤ D → Ix c pre W → W.heap[D]? = some (.deferred (some [])) → c.wpIn Fence.wide n Try.prog Q { a with defers := { target := .collected D, args := #[] } :: a.defers } W) :
    (Code.rangeFunc g ps assign body).wpIn Fence.wide n Try.prog Q a w := by
  refine wpIn_rangeFunc_ownH (F := Fence.wide) rfl (by omega) hg trivial replies_enters (replies_stops (n - 1) B f (by omega) hV w hB.lt hB) (fun h k => h.trans k) (Keeps2.book hB.lt) (Below.refl _ _) (fun x => by rw [hps]; rfl)
    I Ix hI hIx h0 (fun x a' W => ∃ b c, X x b c W ∧ a' = A x b c) ?_ ?_ ?_ hdone (fun D c pre W hD _ hi hK => hstop D c pre W hD hi hK)
  · rintro x a' s W W' row ⟨b, c, h, e⟩ hg' hr
    exact ⟨b, c, hX x b c () W W' row h hg' hr, e⟩
  · intro l pre x W K hi hK
    exact hassign l pre x W K hi fun b c W' k1 k2 k3 k4 => hK _ W' k1 k2 k3 ⟨b, c, k4, rfl⟩
  · rintro l pre x a' W hl hr hi ⟨b, c, hx, rfl⟩ hlt
    exact hbody l pre x b c W hl hr hi hx hlt
theorem blk_own {β : Type} (b n : Nat) (f : Nat → Int) (t : TypeId) : Own (fun (_ : β) W => Blk W b n f t) := fun s X Y row hs hg hrow =>
  hs.grown hg (fun e => by obtain ⟨o, ho, hc⟩ := hrow b e.symm; rw [show X.heap[b]? = _ from hs] at ho; cases ho; cases hc)
theorem box_low {W W' : World} {B : Nat} {t : TypeId} {v : Value} (h : Boxed W B t v) (hb : Below W.heap.size W W') : Boxed W' B t v := (hb.block B h.lt).trans h
def vals {f : Nat → Int} (pre : List (Pl f)) : List (Nat × Nat) := pre.map (·.1)
theorem vals_snoc {f : Nat → Int} (pre : List (Pl f)) (x : Pl f) : vals (pre ++ [x]) = vals pre ++ [x.1] := by simp [vals]
theorem vals_len {f : Nat → Int} (pre : List (Pl f)) : (vals pre).length = pre.length := by simp [vals]
end Go.Proofs.Ytblcojacmjbjcab
