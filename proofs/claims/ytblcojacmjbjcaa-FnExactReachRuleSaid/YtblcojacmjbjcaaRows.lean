/-
  No cell of these rows narrows 'for every input' (looked for: loops, veiled, ifaces, maps, wideKeys, modest, calm, conditions, laid).
  DERIVED. THE GIVEN ROWS OF THIS SEAT. 12 by the template 'for every input the law returns true; each argument reads behind the call as it read before'; 0 by the template 'total and deterministic' (their statements: YtblcojacmjbjcaaTotals.lean).
  GIVEN WITH THE SEED: the statements are not yours to turn. If you find one false, say at which input.
  Laid BY PROGRAM, IN A SANDBOX (cutbox-rows.mjs): the forced cells as the released guide's own fill.sh prints them over the translation eb05da25bb113de1… (all of the seat's roots in one cut). By AI agents, Wed Nov 11 2026. No macro, syntax, notation, axiom, sorry.
-/
import Derived.Test.YtblcojacmjbjcaaChecked
import GoSem.Claim
import GoSem.ClaimJoined
import GoSem.ClaimMapViews
import Derived.JoinedTies
import Derived.KernelRfl
namespace Go.Proofs.Ytblcojacmjbjcaa
/- THE CELL 'sum', in the pinned program and in every row, IS THE sha256 OF THE DUMP (.gsa) THAT YtblcojacmjbjcaaProg.lean LOADS. Nothing in Lean hashes anything: it is a label: what it is worth is what the hold of that sum in a sandbox is worth. -/
noncomputable def Try.pinned : Pinned := { name := "ytblcojacmjbjcaa", sum := "eb05da25bb113de15c39d6cd0eb57029fd438ff9741a4cdfe3b1eee90895cefd", checked := Try.checked }
namespace Rows
def none {H : Type} : Left H := { results := [], args := [] }

/-- 'laws.FnExactMergeOf': WHATEVER THE INPUT: true; the input reads as it did. -/
def fnExactMergeOfSpec : ChangeSpec := { name := "fnExactMergeOf", fn := fun _ => fun
  | [d1, d2, d3] => { results := [.lit (.bool true)], args := [d1, d2, d3] }
  | _ => none }
def fnExactMergeOfRow : OpenClaim := { program := "ytblcojacmjbjcaa", sum := "eb05da25bb113de15c39d6cd0eb57029fd438ff9741a4cdfe3b1eee90895cefd", func := "loop.example/g01194/laws.FnExactMergeOf", spec := "fnExactMergeOf", unfollowed := true, recurses := true, apart := false }
def FnExactMergeOfSaid : Prop := fnExactMergeOfRow.holds Try.pinned (OpenSpec.ofChange fnExactMergeOfSpec)

/-- ITS FALSE NEIGHBOUR: 'it returns false'. Refute it at one input. -/
def fnExactMergeOfWrong : ChangeSpec := { name := "fnExactMergeOf", fn := fun _ => fun
  | [d1, d2, d3] => { results := [.lit (.bool false)], args := [d1, d2, d3] }
  | _ => none }
def FnExactMergeOfWrongFalsely : Prop := fnExactMergeOfRow.holds Try.pinned (OpenSpec.ofChange fnExactMergeOfWrong)

/-- 'laws.FnExactWorthBy': WHATEVER THE INPUT: true; the input reads as it did. -/
def fnExactWorthBySpec : ChangeSpec := { name := "fnExactWorthBy", fn := fun _ => fun
  | [d1, d2] => { results := [.lit (.bool true)], args := [d1, d2] }
  | _ => none }
def fnExactWorthByRow : OpenClaim := { program := "ytblcojacmjbjcaa", sum := "eb05da25bb113de15c39d6cd0eb57029fd438ff9741a4cdfe3b1eee90895cefd", func := "loop.example/g01194/laws.FnExactWorthBy", spec := "fnExactWorthBy", unfollowed := true, recurses := true, apart := false }
def FnExactWorthBySaid : Prop := fnExactWorthByRow.holds Try.pinned (OpenSpec.ofChange fnExactWorthBySpec)

/-- ITS FALSE NEIGHBOUR: 'it returns false'. Refute it at one input. -/
def fnExactWorthByWrong : ChangeSpec := { name := "fnExactWorthBy", fn := fun _ => fun
  | [d1, d2] => { results := [.lit (.bool false)], args := [d1, d2] }
  | _ => none }
def FnExactWorthByWrongFalsely : Prop := fnExactWorthByRow.holds Try.pinned (OpenSpec.ofChange fnExactWorthByWrong)

/-- 'laws.FnExactPairsBy': WHATEVER THE INPUT: true; the input reads as it did. -/
def fnExactPairsBySpec : ChangeSpec := { name := "fnExactPairsBy", fn := fun _ => fun
  | [d] => { results := [.lit (.bool true)], args := [d] }
  | _ => none }
def fnExactPairsByRow : OpenClaim := { program := "ytblcojacmjbjcaa", sum := "eb05da25bb113de15c39d6cd0eb57029fd438ff9741a4cdfe3b1eee90895cefd", func := "loop.example/g01194/laws.FnExactPairsBy", spec := "fnExactPairsBy", unfollowed := true, recurses := true, apart := false }
def FnExactPairsBySaid : Prop := fnExactPairsByRow.holds Try.pinned (OpenSpec.ofChange fnExactPairsBySpec)

/-- ITS FALSE NEIGHBOUR: 'it returns false'. Refute it at one input. -/
def fnExactPairsByWrong : ChangeSpec := { name := "fnExactPairsBy", fn := fun _ => fun
  | [d] => { results := [.lit (.bool false)], args := [d] }
  | _ => none }
def FnExactPairsByWrongFalsely : Prop := fnExactPairsByRow.holds Try.pinned (OpenSpec.ofChange fnExactPairsByWrong)

/-- 'laws.FnExactSlideBy': WHATEVER THE INPUT: true; the input reads as it did. -/
def fnExactSlideBySpec : ChangeSpec := { name := "fnExactSlideBy", fn := fun _ => fun
  | [d1, d2, d3] => { results := [.lit (.bool true)], args := [d1, d2, d3] }
  | _ => none }
def fnExactSlideByRow : OpenClaim := { program := "ytblcojacmjbjcaa", sum := "eb05da25bb113de15c39d6cd0eb57029fd438ff9741a4cdfe3b1eee90895cefd", func := "loop.example/g01194/laws.FnExactSlideBy", spec := "fnExactSlideBy", unfollowed := true, recurses := true, apart := false }
def FnExactSlideBySaid : Prop := fnExactSlideByRow.holds Try.pinned (OpenSpec.ofChange fnExactSlideBySpec)

/-- ITS FALSE NEIGHBOUR: 'it returns false'. Refute it at one input. -/
def fnExactSlideByWrong : ChangeSpec := { name := "fnExactSlideBy", fn := fun _ => fun
  | [d1, d2, d3] => { results := [.lit (.bool false)], args := [d1, d2, d3] }
  | _ => none }
def FnExactSlideByWrongFalsely : Prop := fnExactSlideByRow.holds Try.pinned (OpenSpec.ofChange fnExactSlideByWrong)

/-- 'laws.FnExactMovesBy': WHATEVER THE INPUT: true; the input reads as it did. -/
def fnExactMovesBySpec : ChangeSpec := { name := "fnExactMovesBy", fn := fun _ => fun
  | [d1, d2] => { results := [.lit (.bool true)], args := [d1, d2] }
  | _ => none }
def fnExactMovesByRow : OpenClaim := { program := "ytblcojacmjbjcaa", sum := "eb05da25bb113de15c39d6cd0eb57029fd438ff9741a4cdfe3b1eee90895cefd", func := "loop.example/g01194/laws.FnExactMovesBy", spec := "fnExactMovesBy", unfollowed := true, recurses := true, apart := false }
def FnExactMovesBySaid : Prop := fnExactMovesByRow.holds Try.pinned (OpenSpec.ofChange fnExactMovesBySpec)

/-- ITS FALSE NEIGHBOUR: 'it returns false'. Refute it at one input. -/
def fnExactMovesByWrong : ChangeSpec := { name := "fnExactMovesBy", fn := fun _ => fun
  | [d1, d2] => { results := [.lit (.bool false)], args := [d1, d2] }
  | _ => none }
def FnExactMovesByWrongFalsely : Prop := fnExactMovesByRow.holds Try.pinned (OpenSpec.ofChange fnExactMovesByWrong)

/-- 'laws.FnExactIsOverBy': WHATEVER THE INPUT: true; the input reads as it did. -/
def fnExactIsOverBySpec : ChangeSpec := { name := "fnExactIsOverBy", fn := fun _ => fun
  | [d1, d2] => { results := [.lit (.bool true)], args := [d1, d2] }
  | _ => none }
def fnExactIsOverByRow : OpenClaim := { program := "ytblcojacmjbjcaa", sum := "eb05da25bb113de15c39d6cd0eb57029fd438ff9741a4cdfe3b1eee90895cefd", func := "loop.example/g01194/laws.FnExactIsOverBy", spec := "fnExactIsOverBy", unfollowed := true, recurses := true, apart := false }
def FnExactIsOverBySaid : Prop := fnExactIsOverByRow.holds Try.pinned (OpenSpec.ofChange fnExactIsOverBySpec)

/-- ITS FALSE NEIGHBOUR: 'it returns false'. Refute it at one input. -/
def fnExactIsOverByWrong : ChangeSpec := { name := "fnExactIsOverBy", fn := fun _ => fun
  | [d1, d2] => { results := [.lit (.bool false)], args := [d1, d2] }
  | _ => none }
def FnExactIsOverByWrongFalsely : Prop := fnExactIsOverByRow.holds Try.pinned (OpenSpec.ofChange fnExactIsOverByWrong)

/-- 'laws.FnExactSumBy': WHATEVER THE INPUT: true; the input reads as it did. -/
def fnExactSumBySpec : ChangeSpec := { name := "fnExactSumBy", fn := fun _ => fun
  | [d1, d2] => { results := [.lit (.bool true)], args := [d1, d2] }
  | _ => none }
def fnExactSumByRow : OpenClaim := { program := "ytblcojacmjbjcaa", sum := "eb05da25bb113de15c39d6cd0eb57029fd438ff9741a4cdfe3b1eee90895cefd", func := "loop.example/g01194/laws.FnExactSumBy", spec := "fnExactSumBy", unfollowed := true, recurses := true, apart := false }
def FnExactSumBySaid : Prop := fnExactSumByRow.holds Try.pinned (OpenSpec.ofChange fnExactSumBySpec)

/-- ITS FALSE NEIGHBOUR: 'it returns false'. Refute it at one input. -/
def fnExactSumByWrong : ChangeSpec := { name := "fnExactSumBy", fn := fun _ => fun
  | [d1, d2] => { results := [.lit (.bool false)], args := [d1, d2] }
  | _ => none }
def FnExactSumByWrongFalsely : Prop := fnExactSumByRow.holds Try.pinned (OpenSpec.ofChange fnExactSumByWrong)

/-- 'laws.FnExactRulesAgree': WHATEVER THE INPUT: true; the input reads as it did. -/
def fnExactRulesAgreeSpec : ChangeSpec := { name := "fnExactRulesAgree", fn := fun _ => fun
  | [d1, d2] => { results := [.lit (.bool true)], args := [d1, d2] }
  | _ => none }
def fnExactRulesAgreeRow : OpenClaim := { program := "ytblcojacmjbjcaa", sum := "eb05da25bb113de15c39d6cd0eb57029fd438ff9741a4cdfe3b1eee90895cefd", func := "loop.example/g01194/laws.FnExactRulesAgree", spec := "fnExactRulesAgree", unfollowed := true, recurses := true, apart := false }
def FnExactRulesAgreeSaid : Prop := fnExactRulesAgreeRow.holds Try.pinned (OpenSpec.ofChange fnExactRulesAgreeSpec)

/-- ITS FALSE NEIGHBOUR: 'it returns false'. Refute it at one input. -/
def fnExactRulesAgreeWrong : ChangeSpec := { name := "fnExactRulesAgree", fn := fun _ => fun
  | [d1, d2] => { results := [.lit (.bool false)], args := [d1, d2] }
  | _ => none }
def FnExactRulesAgreeWrongFalsely : Prop := fnExactRulesAgreeRow.holds Try.pinned (OpenSpec.ofChange fnExactRulesAgreeWrong)

/-- 'laws.FnExactCommonMoves': WHATEVER THE INPUT: true; the input reads as it did. -/
def fnExactCommonMovesSpec : ChangeSpec := { name := "fnExactCommonMoves", fn := fun _ => fun
  | [d] => { results := [.lit (.bool true)], args := [d] }
  | _ => none }
def fnExactCommonMovesRow : OpenClaim := { program := "ytblcojacmjbjcaa", sum := "eb05da25bb113de15c39d6cd0eb57029fd438ff9741a4cdfe3b1eee90895cefd", func := "loop.example/g01194/laws.FnExactCommonMoves", spec := "fnExactCommonMoves", unfollowed := true, recurses := true, apart := false }
def FnExactCommonMovesSaid : Prop := fnExactCommonMovesRow.holds Try.pinned (OpenSpec.ofChange fnExactCommonMovesSpec)

/-- ITS FALSE NEIGHBOUR: 'it returns false'. Refute it at one input. -/
def fnExactCommonMovesWrong : ChangeSpec := { name := "fnExactCommonMoves", fn := fun _ => fun
  | [d] => { results := [.lit (.bool false)], args := [d] }
  | _ => none }
def FnExactCommonMovesWrongFalsely : Prop := fnExactCommonMovesRow.holds Try.pinned (OpenSpec.ofChange fnExactCommonMovesWrong)

/-- 'laws.FnExactSettleBy': WHATEVER THE INPUT: true; the input reads as it did. -/
def fnExactSettleBySpec : ChangeSpec := { name := "fnExactSettleBy", fn := fun _ => fun
  | [d1, d2, d3] => { results := [.lit (.bool true)], args := [d1, d2, d3] }
  | _ => none }
def fnExactSettleByRow : OpenClaim := { program := "ytblcojacmjbjcaa", sum := "eb05da25bb113de15c39d6cd0eb57029fd438ff9741a4cdfe3b1eee90895cefd", func := "loop.example/g01194/laws.FnExactSettleBy", spec := "fnExactSettleBy", unfollowed := true, recurses := true, apart := false }
def FnExactSettleBySaid : Prop := fnExactSettleByRow.holds Try.pinned (OpenSpec.ofChange fnExactSettleBySpec)

/-- ITS FALSE NEIGHBOUR: 'it returns false'. Refute it at one input. -/
def fnExactSettleByWrong : ChangeSpec := { name := "fnExactSettleBy", fn := fun _ => fun
  | [d1, d2, d3] => { results := [.lit (.bool false)], args := [d1, d2, d3] }
  | _ => none }
def FnExactSettleByWrongFalsely : Prop := fnExactSettleByRow.holds Try.pinned (OpenSpec.ofChange fnExactSettleByWrong)

/-- 'laws.FnExactMostMergersBy': WHATEVER THE INPUT: true; the input reads as it did. -/
def fnExactMostMergersBySpec : ChangeSpec := { name := "fnExactMostMergersBy", fn := fun _ => fun
  | [d1, d2] => { results := [.lit (.bool true)], args := [d1, d2] }
  | _ => none }
def fnExactMostMergersByRow : OpenClaim := { program := "ytblcojacmjbjcaa", sum := "eb05da25bb113de15c39d6cd0eb57029fd438ff9741a4cdfe3b1eee90895cefd", func := "loop.example/g01194/laws.FnExactMostMergersBy", spec := "fnExactMostMergersBy", unfollowed := true, recurses := true, apart := false }
def FnExactMostMergersBySaid : Prop := fnExactMostMergersByRow.holds Try.pinned (OpenSpec.ofChange fnExactMostMergersBySpec)

/-- ITS FALSE NEIGHBOUR: 'it returns false'. Refute it at one input. -/
def fnExactMostMergersByWrong : ChangeSpec := { name := "fnExactMostMergersBy", fn := fun _ => fun
  | [d1, d2] => { results := [.lit (.bool false)], args := [d1, d2] }
  | _ => none }
def FnExactMostMergersByWrongFalsely : Prop := fnExactMostMergersByRow.holds Try.pinned (OpenSpec.ofChange fnExactMostMergersByWrong)

/-- 'laws.FnExactReachRule': WHATEVER THE INPUT: true; the input reads as it did. -/
def fnExactReachRuleSpec : ChangeSpec := { name := "fnExactReachRule", fn := fun _ => fun
  | [d1, d2] => { results := [.lit (.bool true)], args := [d1, d2] }
  | _ => none }
def fnExactReachRuleRow : OpenClaim := { program := "ytblcojacmjbjcaa", sum := "eb05da25bb113de15c39d6cd0eb57029fd438ff9741a4cdfe3b1eee90895cefd", func := "loop.example/g01194/laws.FnExactReachRule", spec := "fnExactReachRule", unfollowed := true, recurses := true, apart := false }
def FnExactReachRuleSaid : Prop := fnExactReachRuleRow.holds Try.pinned (OpenSpec.ofChange fnExactReachRuleSpec)

/-- ITS FALSE NEIGHBOUR: 'it returns false'. Refute it at one input. -/
def fnExactReachRuleWrong : ChangeSpec := { name := "fnExactReachRule", fn := fun _ => fun
  | [d1, d2] => { results := [.lit (.bool false)], args := [d1, d2] }
  | _ => none }
def FnExactReachRuleWrongFalsely : Prop := fnExactReachRuleRow.holds Try.pinned (OpenSpec.ofChange fnExactReachRuleWrong)

/- THE SECOND FORM. 'bulk': how many values and letters a reading holds, each counted each time it is reached (what is shared counts as often as it is met; a slice's spare places count too). A statement '..UptoSaid' is the law's where the arguments, and the package variables that the reading takes, are together of bulk at most 1048576: NARROWER than '..Said'. Prove '..Said' where nothing that the law and all that it calls make is longer than what came in: it says more and counts as full. Else prove '..UptoSaid'. A law counts once. -/
mutual
def uptoBulk {H : Type} : DataW H → Nat
  | .lit (.string bytes) => bytes.length + 1
  | .lit _ => 1
  | .nil => 1
  | .ptr d => uptoBulk d + 1
  | .slice elems spare => uptoBulkAll elems + uptoBulkAll spare + 1
  | .agg parts => uptoBulkAll parts + 1
  | .iface _ d => uptoBulk d + 1
  | .map entries => uptoBulkEntries entries + 1
  | .held _ => 1
def uptoBulkAll {H : Type} : List (DataW H) → Nat
  | [] => 0
  | d :: r => uptoBulk d + uptoBulkAll r
def uptoBulkEntries {H : Type} : List (Lit × DataW H) → Nat
  | [] => 0
  | x :: r => uptoBulkEntry x + uptoBulkEntries r
def uptoBulkEntry {H : Type} : Lit × DataW H → Nat
  | (.string bytes, d) => bytes.length + uptoBulk d + 1
  | (_, d) => uptoBulk d + 1
 end
def uptoSmall : (H : Type) → List (DataW H) → Bool := fun _ ds => decide (uptoBulkAll ds ≤ 1048576)
def OpenSpec.upto (s : _root_.Go.ChangeSpec) : _root_.Go.OpenSpec := { _root_.Go.OpenSpec.ofChange s with cond := some uptoSmall }

/-- 'laws.FnExactMergeOf', WHERE WHAT IT READS IS OF BULK AT MOST 1048576: true; the input reads as it did. -/
def fnExactMergeOfUptoRow : OpenClaim := { program := "ytblcojacmjbjcaa", sum := "eb05da25bb113de15c39d6cd0eb57029fd438ff9741a4cdfe3b1eee90895cefd", func := "loop.example/g01194/laws.FnExactMergeOf", spec := "fnExactMergeOf", unfollowed := true, recurses := true, apart := false, narrowed := true }
def FnExactMergeOfUptoSaid : Prop := fnExactMergeOfUptoRow.holds Try.pinned (OpenSpec.upto fnExactMergeOfSpec)

/-- 'laws.FnExactWorthBy', WHERE WHAT IT READS IS OF BULK AT MOST 1048576: true; the input reads as it did. -/
def fnExactWorthByUptoRow : OpenClaim := { program := "ytblcojacmjbjcaa", sum := "eb05da25bb113de15c39d6cd0eb57029fd438ff9741a4cdfe3b1eee90895cefd", func := "loop.example/g01194/laws.FnExactWorthBy", spec := "fnExactWorthBy", unfollowed := true, recurses := true, apart := false, narrowed := true }
def FnExactWorthByUptoSaid : Prop := fnExactWorthByUptoRow.holds Try.pinned (OpenSpec.upto fnExactWorthBySpec)

/-- 'laws.FnExactPairsBy', WHERE WHAT IT READS IS OF BULK AT MOST 1048576: true; the input reads as it did. -/
def fnExactPairsByUptoRow : OpenClaim := { program := "ytblcojacmjbjcaa", sum := "eb05da25bb113de15c39d6cd0eb57029fd438ff9741a4cdfe3b1eee90895cefd", func := "loop.example/g01194/laws.FnExactPairsBy", spec := "fnExactPairsBy", unfollowed := true, recurses := true, apart := false, narrowed := true }
def FnExactPairsByUptoSaid : Prop := fnExactPairsByUptoRow.holds Try.pinned (OpenSpec.upto fnExactPairsBySpec)

/-- 'laws.FnExactSlideBy', WHERE WHAT IT READS IS OF BULK AT MOST 1048576: true; the input reads as it did. -/
def fnExactSlideByUptoRow : OpenClaim := { program := "ytblcojacmjbjcaa", sum := "eb05da25bb113de15c39d6cd0eb57029fd438ff9741a4cdfe3b1eee90895cefd", func := "loop.example/g01194/laws.FnExactSlideBy", spec := "fnExactSlideBy", unfollowed := true, recurses := true, apart := false, narrowed := true }
def FnExactSlideByUptoSaid : Prop := fnExactSlideByUptoRow.holds Try.pinned (OpenSpec.upto fnExactSlideBySpec)

/-- 'laws.FnExactMovesBy', WHERE WHAT IT READS IS OF BULK AT MOST 1048576: true; the input reads as it did. -/
def fnExactMovesByUptoRow : OpenClaim := { program := "ytblcojacmjbjcaa", sum := "eb05da25bb113de15c39d6cd0eb57029fd438ff9741a4cdfe3b1eee90895cefd", func := "loop.example/g01194/laws.FnExactMovesBy", spec := "fnExactMovesBy", unfollowed := true, recurses := true, apart := false, narrowed := true }
def FnExactMovesByUptoSaid : Prop := fnExactMovesByUptoRow.holds Try.pinned (OpenSpec.upto fnExactMovesBySpec)

/-- 'laws.FnExactIsOverBy', WHERE WHAT IT READS IS OF BULK AT MOST 1048576: true; the input reads as it did. -/
def fnExactIsOverByUptoRow : OpenClaim := { program := "ytblcojacmjbjcaa", sum := "eb05da25bb113de15c39d6cd0eb57029fd438ff9741a4cdfe3b1eee90895cefd", func := "loop.example/g01194/laws.FnExactIsOverBy", spec := "fnExactIsOverBy", unfollowed := true, recurses := true, apart := false, narrowed := true }
def FnExactIsOverByUptoSaid : Prop := fnExactIsOverByUptoRow.holds Try.pinned (OpenSpec.upto fnExactIsOverBySpec)

/-- 'laws.FnExactSumBy', WHERE WHAT IT READS IS OF BULK AT MOST 1048576: true; the input reads as it did. -/
def fnExactSumByUptoRow : OpenClaim := { program := "ytblcojacmjbjcaa", sum := "eb05da25bb113de15c39d6cd0eb57029fd438ff9741a4cdfe3b1eee90895cefd", func := "loop.example/g01194/laws.FnExactSumBy", spec := "fnExactSumBy", unfollowed := true, recurses := true, apart := false, narrowed := true }
def FnExactSumByUptoSaid : Prop := fnExactSumByUptoRow.holds Try.pinned (OpenSpec.upto fnExactSumBySpec)

/-- 'laws.FnExactRulesAgree', WHERE WHAT IT READS IS OF BULK AT MOST 1048576: true; the input reads as it did. -/
def fnExactRulesAgreeUptoRow : OpenClaim := { program := "ytblcojacmjbjcaa", sum := "eb05da25bb113de15c39d6cd0eb57029fd438ff9741a4cdfe3b1eee90895cefd", func := "loop.example/g01194/laws.FnExactRulesAgree", spec := "fnExactRulesAgree", unfollowed := true, recurses := true, apart := false, narrowed := true }
def FnExactRulesAgreeUptoSaid : Prop := fnExactRulesAgreeUptoRow.holds Try.pinned (OpenSpec.upto fnExactRulesAgreeSpec)

/-- 'laws.FnExactCommonMoves', WHERE WHAT IT READS IS OF BULK AT MOST 1048576: true; the input reads as it did. -/
def fnExactCommonMovesUptoRow : OpenClaim := { program := "ytblcojacmjbjcaa", sum := "eb05da25bb113de15c39d6cd0eb57029fd438ff9741a4cdfe3b1eee90895cefd", func := "loop.example/g01194/laws.FnExactCommonMoves", spec := "fnExactCommonMoves", unfollowed := true, recurses := true, apart := false, narrowed := true }
def FnExactCommonMovesUptoSaid : Prop := fnExactCommonMovesUptoRow.holds Try.pinned (OpenSpec.upto fnExactCommonMovesSpec)

/-- 'laws.FnExactSettleBy', WHERE WHAT IT READS IS OF BULK AT MOST 1048576: true; the input reads as it did. -/
def fnExactSettleByUptoRow : OpenClaim := { program := "ytblcojacmjbjcaa", sum := "eb05da25bb113de15c39d6cd0eb57029fd438ff9741a4cdfe3b1eee90895cefd", func := "loop.example/g01194/laws.FnExactSettleBy", spec := "fnExactSettleBy", unfollowed := true, recurses := true, apart := false, narrowed := true }
def FnExactSettleByUptoSaid : Prop := fnExactSettleByUptoRow.holds Try.pinned (OpenSpec.upto fnExactSettleBySpec)

/-- 'laws.FnExactMostMergersBy', WHERE WHAT IT READS IS OF BULK AT MOST 1048576: true; the input reads as it did. -/
def fnExactMostMergersByUptoRow : OpenClaim := { program := "ytblcojacmjbjcaa", sum := "eb05da25bb113de15c39d6cd0eb57029fd438ff9741a4cdfe3b1eee90895cefd", func := "loop.example/g01194/laws.FnExactMostMergersBy", spec := "fnExactMostMergersBy", unfollowed := true, recurses := true, apart := false, narrowed := true }
def FnExactMostMergersByUptoSaid : Prop := fnExactMostMergersByUptoRow.holds Try.pinned (OpenSpec.upto fnExactMostMergersBySpec)

/-- 'laws.FnExactReachRule', WHERE WHAT IT READS IS OF BULK AT MOST 1048576: true; the input reads as it did. -/
def fnExactReachRuleUptoRow : OpenClaim := { program := "ytblcojacmjbjcaa", sum := "eb05da25bb113de15c39d6cd0eb57029fd438ff9741a4cdfe3b1eee90895cefd", func := "loop.example/g01194/laws.FnExactReachRule", spec := "fnExactReachRule", unfollowed := true, recurses := true, apart := false, narrowed := true }
def FnExactReachRuleUptoSaid : Prop := fnExactReachRuleUptoRow.holds Try.pinned (OpenSpec.upto fnExactReachRuleSpec)

end Rows
end Go.Proofs.Ytblcojacmjbjcaa
