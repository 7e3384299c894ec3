/-
  Maps whose keys are boards, or rows of four: what the program keeps there, as a list of their numbers. Nothing is proved here of the program's functions.
-/
import Derived.Test.YtblcojacmjbjcabBaseA
import Derived.Test.YtblcojacmjbjcabPlainA
import Derived.Test.YtblcojacmjbjcabClosed
import Derived.Maps.OwnSet
import Derived.DeepKeys4
namespace Go.Proofs.Ytblcojacmjbjcab
open Go.RowKit Plain
open Go.Maps (Keyed)

/-- The numbers, each one of a cell. -/
def Wf (n : Nat) (f : Nat → Int) : Prop := ∀ i, i < n → (Lit.int .i64 (f i)).wf = true

section
variable {P : Program} {d n m : Nat} {t e g : TypeId} {f : Nat → Int}
end
/-- One more, if it is not there. -/
def addS (S : List (List Int)) (l : List Int) : List (List Int) := if l ∈ S then S else S ++ [l]
section
variable {P : Program} {k e t : TypeId} {b n m : Nat} {w w' : World} {S : List (List Int)} {f : Nat → Int}
/-- The block b is a map of at most n entries: what it has are the lists of S, each m numbers long, each with true. -/
def Seen (P : Program) (k e : TypeId) (m : Nat) (w : World) (b n : Nat) (S : List (List Int)) : Prop :=
  ∃ D : DataW Unit, w.ownsMap P k (plainElem P e) b n D ∧ Maps.size D = S.length ∧
    ∀ f kl, keyOf P k (.agg (mk m f)) = some kl → Maps.has D kl = decide (cl m f ∈ S) ∧ D.atKey kl (.lit (.bool false)) = .lit (.bool (decide (cl m f ∈ S)))
end

end Go.Proofs.Ytblcojacmjbjcab
