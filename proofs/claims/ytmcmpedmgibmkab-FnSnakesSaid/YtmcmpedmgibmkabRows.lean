/-
  No cell of these rows narrows 'for every input' (looked for: loops, veiled, ifaces, maps, wideKeys, modest, calm, conditions, laid).
  DERIVED. THE GIVEN ROWS OF THIS SEAT. 4 by the template 'for every input the law returns true; each argument reads behind the call as it read before'; 0 by the template 'total and deterministic' (their statements: YtmcmpedmgibmkabTotals.lean).
  GIVEN WITH THE SEED: the statements are not yours to turn. If you find one false, say at which input.
  Laid BY PROGRAM, IN A SANDBOX (cutbox-rows.mjs): the forced cells as the released guide's own fill.sh prints them over the translation 61800a2b12c492fa… (all of the seat's roots in one cut). By AI agents, Wed Nov 11 2026. No macro, syntax, notation, axiom, sorry.
-/
import Derived.Test.YtmcmpedmgibmkabChecked
import GoSem.Claim
import GoSem.ClaimJoined
import GoSem.ClaimMapViews
import Derived.JoinedTies
import Derived.KernelRfl
namespace Go.Proofs.Ytmcmpedmgibmkab
/- THE CELL 'sum', in the pinned program and in every row, IS THE sha256 OF THE DUMP (.gsa) THAT YtmcmpedmgibmkabProg.lean LOADS. Nothing in Lean hashes anything: it is a label: what it is worth is what the hold of that sum in a sandbox is worth. -/
noncomputable def Try.pinned : Pinned := { name := "ytmcmpedmgibmkab", sum := "61800a2b12c492fa9a85a75602696008fc239ebd0f69a6ef7694f478fc5cabeb", checked := Try.checked }
namespace Rows
def none {H : Type} : Left H := { results := [], args := [] }

/-- 'laws.FnExactSnakePath': WHATEVER THE INPUT: true; the input reads as it did. -/
def fnExactSnakePathSpec : ChangeSpec := { name := "fnExactSnakePath", fn := fun _ => fun
  | [d] => { results := [.lit (.bool true)], args := [d] }
  | _ => none }
def fnExactSnakePathRow : OpenClaim := { program := "ytmcmpedmgibmkab", sum := "61800a2b12c492fa9a85a75602696008fc239ebd0f69a6ef7694f478fc5cabeb", func := "loop.example/g01194/laws.FnExactSnakePath", spec := "fnExactSnakePath", unfollowed := true, recurses := true, apart := false }
def FnExactSnakePathSaid : Prop := fnExactSnakePathRow.holds Try.pinned (OpenSpec.ofChange fnExactSnakePathSpec)

/-- ITS FALSE NEIGHBOUR: 'it returns false'. Refute it at one input. -/
def fnExactSnakePathWrong : ChangeSpec := { name := "fnExactSnakePath", fn := fun _ => fun
  | [d] => { results := [.lit (.bool false)], args := [d] }
  | _ => none }
def FnExactSnakePathWrongFalsely : Prop := fnExactSnakePathRow.holds Try.pinned (OpenSpec.ofChange fnExactSnakePathWrong)

/-- 'laws.FnExactSnakesOf': WHATEVER THE INPUT: true; the input reads as it did. -/
def fnExactSnakesOfSpec : ChangeSpec := { name := "fnExactSnakesOf", fn := fun _ => fun
  | [d] => { results := [.lit (.bool true)], args := [d] }
  | _ => none }
def fnExactSnakesOfRow : OpenClaim := { program := "ytmcmpedmgibmkab", sum := "61800a2b12c492fa9a85a75602696008fc239ebd0f69a6ef7694f478fc5cabeb", func := "loop.example/g01194/laws.FnExactSnakesOf", spec := "fnExactSnakesOf", unfollowed := true, recurses := true, apart := false }
def FnExactSnakesOfSaid : Prop := fnExactSnakesOfRow.holds Try.pinned (OpenSpec.ofChange fnExactSnakesOfSpec)

/-- ITS FALSE NEIGHBOUR: 'it returns false'. Refute it at one input. -/
def fnExactSnakesOfWrong : ChangeSpec := { name := "fnExactSnakesOf", fn := fun _ => fun
  | [d] => { results := [.lit (.bool false)], args := [d] }
  | _ => none }
def FnExactSnakesOfWrongFalsely : Prop := fnExactSnakesOfRow.holds Try.pinned (OpenSpec.ofChange fnExactSnakesOfWrong)

/-- 'laws.FnExactSnakeBoard': WHATEVER THE INPUT: true; the input reads as it did. -/
def fnExactSnakeBoardSpec : ChangeSpec := { name := "fnExactSnakeBoard", fn := fun _ => fun
  | [d1, d2] => { results := [.lit (.bool true)], args := [d1, d2] }
  | _ => none }
def fnExactSnakeBoardRow : OpenClaim := { program := "ytmcmpedmgibmkab", sum := "61800a2b12c492fa9a85a75602696008fc239ebd0f69a6ef7694f478fc5cabeb", func := "loop.example/g01194/laws.FnExactSnakeBoard", spec := "fnExactSnakeBoard", unfollowed := true, recurses := true, apart := false }
def FnExactSnakeBoardSaid : Prop := fnExactSnakeBoardRow.holds Try.pinned (OpenSpec.ofChange fnExactSnakeBoardSpec)

/-- ITS FALSE NEIGHBOUR: 'it returns false'. Refute it at one input. -/
def fnExactSnakeBoardWrong : ChangeSpec := { name := "fnExactSnakeBoard", fn := fun _ => fun
  | [d1, d2] => { results := [.lit (.bool false)], args := [d1, d2] }
  | _ => none }
def FnExactSnakeBoardWrongFalsely : Prop := fnExactSnakeBoardRow.holds Try.pinned (OpenSpec.ofChange fnExactSnakeBoardWrong)

/-- 'laws.FnSnakes': WHATEVER THE INPUT: true; the input reads as it did. -/
def fnSnakesSpec : ChangeSpec := { name := "fnSnakes", fn := fun _ => fun
  | [d] => { results := [.lit (.bool true)], args := [d] }
  | _ => none }
def fnSnakesRow : OpenClaim := { program := "ytmcmpedmgibmkab", sum := "61800a2b12c492fa9a85a75602696008fc239ebd0f69a6ef7694f478fc5cabeb", func := "loop.example/g01194/laws.FnSnakes", spec := "fnSnakes", unfollowed := true, recurses := true, apart := false }
def FnSnakesSaid : Prop := fnSnakesRow.holds Try.pinned (OpenSpec.ofChange fnSnakesSpec)

/-- ITS FALSE NEIGHBOUR: 'it returns false'. Refute it at one input. -/
def fnSnakesWrong : ChangeSpec := { name := "fnSnakes", fn := fun _ => fun
  | [d] => { results := [.lit (.bool false)], args := [d] }
  | _ => none }
def FnSnakesWrongFalsely : Prop := fnSnakesRow.holds Try.pinned (OpenSpec.ofChange fnSnakesWrong)

/- THE SECOND FORM. 'bulk': how many values and letters a reading holds, each counted each time it is reached (what is shared counts as often as it is met; a slice's spare places count too). A statement '..UptoSaid' is the law's where the arguments, and the package variables that the reading takes, are together of bulk at most 1048576: NARROWER than '..Said'. Prove '..Said' where nothing that the law and all that it calls make is longer than what came in: it says more and counts as full. Else prove '..UptoSaid'. A law counts once. -/
mutual
def uptoBulk {H : Type} : DataW H → Nat
  | .lit (.string bytes) => bytes.length + 1
  | .lit _ => 1
  | .nil => 1
  | .ptr d => uptoBulk d + 1
  | .slice elems spare => uptoBulkAll elems + uptoBulkAll spare + 1
  | .agg parts => uptoBulkAll parts + 1
  | .iface _ d => uptoBulk d + 1
  | .map entries => uptoBulkEntries entries + 1
  | .held _ => 1
def uptoBulkAll {H : Type} : List (DataW H) → Nat
  | [] => 0
  | d :: r => uptoBulk d + uptoBulkAll r
def uptoBulkEntries {H : Type} : List (Lit × DataW H) → Nat
  | [] => 0
  | x :: r => uptoBulkEntry x + uptoBulkEntries r
def uptoBulkEntry {H : Type} : Lit × DataW H → Nat
  | (.string bytes, d) => bytes.length + uptoBulk d + 1
  | (_, d) => uptoBulk d + 1
 end
def uptoSmall : (H : Type) → List (DataW H) → Bool := fun _ ds => decide (uptoBulkAll ds ≤ 1048576)
def OpenSpec.upto (s : _root_.Go.ChangeSpec) : _root_.Go.OpenSpec := { _root_.Go.OpenSpec.ofChange s with cond := some uptoSmall }

/-- 'laws.FnExactSnakePath', WHERE WHAT IT READS IS OF BULK AT MOST 1048576: true; the input reads as it did. -/
def fnExactSnakePathUptoRow : OpenClaim := { program := "ytmcmpedmgibmkab", sum := "61800a2b12c492fa9a85a75602696008fc239ebd0f69a6ef7694f478fc5cabeb", func := "loop.example/g01194/laws.FnExactSnakePath", spec := "fnExactSnakePath", unfollowed := true, recurses := true, apart := false, narrowed := true }
def FnExactSnakePathUptoSaid : Prop := fnExactSnakePathUptoRow.holds Try.pinned (OpenSpec.upto fnExactSnakePathSpec)

/-- 'laws.FnExactSnakesOf', WHERE WHAT IT READS IS OF BULK AT MOST 1048576: true; the input reads as it did. -/
def fnExactSnakesOfUptoRow : OpenClaim := { program := "ytmcmpedmgibmkab", sum := "61800a2b12c492fa9a85a75602696008fc239ebd0f69a6ef7694f478fc5cabeb", func := "loop.example/g01194/laws.FnExactSnakesOf", spec := "fnExactSnakesOf", unfollowed := true, recurses := true, apart := false, narrowed := true }
def FnExactSnakesOfUptoSaid : Prop := fnExactSnakesOfUptoRow.holds Try.pinned (OpenSpec.upto fnExactSnakesOfSpec)

/-- 'laws.FnExactSnakeBoard', WHERE WHAT IT READS IS OF BULK AT MOST 1048576: true; the input reads as it did. -/
def fnExactSnakeBoardUptoRow : OpenClaim := { program := "ytmcmpedmgibmkab", sum := "61800a2b12c492fa9a85a75602696008fc239ebd0f69a6ef7694f478fc5cabeb", func := "loop.example/g01194/laws.FnExactSnakeBoard", spec := "fnExactSnakeBoard", unfollowed := true, recurses := true, apart := false, narrowed := true }
def FnExactSnakeBoardUptoSaid : Prop := fnExactSnakeBoardUptoRow.holds Try.pinned (OpenSpec.upto fnExactSnakeBoardSpec)

/-- 'laws.FnSnakes', WHERE WHAT IT READS IS OF BULK AT MOST 1048576: true; the input reads as it did. -/
def fnSnakesUptoRow : OpenClaim := { program := "ytmcmpedmgibmkab", sum := "61800a2b12c492fa9a85a75602696008fc239ebd0f69a6ef7694f478fc5cabeb", func := "loop.example/g01194/laws.FnSnakes", spec := "fnSnakes", unfollowed := true, recurses := true, apart := false, narrowed := true }
def FnSnakesUptoSaid : Prop := fnSnakesUptoRow.holds Try.pinned (OpenSpec.upto fnSnakesSpec)

end Rows
end Go.Proofs.Ytmcmpedmgibmkab
