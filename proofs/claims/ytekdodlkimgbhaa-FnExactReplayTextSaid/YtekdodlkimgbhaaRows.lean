/-
  No cell of these rows narrows 'for every input' (looked for: loops, veiled, ifaces, maps, wideKeys, modest, calm, conditions, laid).
  DERIVED. THE GIVEN ROWS OF THIS SEAT. 12 by the template 'for every input the law returns true; each argument reads behind the call as it read before'; 0 by the template 'total and deterministic' (their statements: YtekdodlkimgbhaaTotals.lean).
  GIVEN WITH THE SEED: the statements are not yours to turn. If you find one false, say at which input.
  Laid BY PROGRAM, IN A SANDBOX (cutbox-rows.mjs): the forced cells as the released guide's own fill.sh prints them over the translation dce98582ceddeac5… (all of the seat's roots in one cut). By AI agents, Wed Nov 11 2026. No macro, syntax, notation, axiom, sorry.
-/
import Derived.Test.YtekdodlkimgbhaaChecked
import GoSem.Claim
import GoSem.ClaimJoined
import GoSem.ClaimMapViews
import Derived.JoinedTies
import Derived.KernelRfl
namespace Go.Proofs.Ytekdodlkimgbhaa
/- THE CELL 'sum', in the pinned program and in every row, IS THE sha256 OF THE DUMP (.gsa) THAT YtekdodlkimgbhaaProg.lean LOADS. Nothing in Lean hashes anything: it is a label: what it is worth is what the hold of that sum in a sandbox is worth. -/
noncomputable def Try.pinned : Pinned := { name := "ytekdodlkimgbhaa", sum := "dce98582ceddeac5550893fbd0c342bbf2b92c54e5f6bcd9f496598889743aee", checked := Try.checked }
namespace Rows
def none {H : Type} : Left H := { results := [], args := [] }

/-- 'laws.FnExactIsReplay': WHATEVER THE INPUT: true; the input reads as it did. -/
def fnExactIsReplaySpec : ChangeSpec := { name := "fnExactIsReplay", fn := fun _ => fun
  | [d] => { results := [.lit (.bool true)], args := [d] }
  | _ => none }
def fnExactIsReplayRow : OpenClaim := { program := "ytekdodlkimgbhaa", sum := "dce98582ceddeac5550893fbd0c342bbf2b92c54e5f6bcd9f496598889743aee", func := "loop.example/g01194/laws.FnExactIsReplay", spec := "fnExactIsReplay", unfollowed := true, recurses := true, apart := false }
def FnExactIsReplaySaid : Prop := fnExactIsReplayRow.holds Try.pinned (OpenSpec.ofChange fnExactIsReplaySpec)

/-- ITS FALSE NEIGHBOUR: 'it returns false'. Refute it at one input. -/
def fnExactIsReplayWrong : ChangeSpec := { name := "fnExactIsReplay", fn := fun _ => fun
  | [d] => { results := [.lit (.bool false)], args := [d] }
  | _ => none }
def FnExactIsReplayWrongFalsely : Prop := fnExactIsReplayRow.holds Try.pinned (OpenSpec.ofChange fnExactIsReplayWrong)

/-- 'laws.FnExactBoardAt': WHATEVER THE INPUT: true; the input reads as it did. -/
def fnExactBoardAtSpec : ChangeSpec := { name := "fnExactBoardAt", fn := fun _ => fun
  | [d1, d2] => { results := [.lit (.bool true)], args := [d1, d2] }
  | _ => none }
def fnExactBoardAtRow : OpenClaim := { program := "ytekdodlkimgbhaa", sum := "dce98582ceddeac5550893fbd0c342bbf2b92c54e5f6bcd9f496598889743aee", func := "loop.example/g01194/laws.FnExactBoardAt", spec := "fnExactBoardAt", unfollowed := true, recurses := true, apart := false }
def FnExactBoardAtSaid : Prop := fnExactBoardAtRow.holds Try.pinned (OpenSpec.ofChange fnExactBoardAtSpec)

/-- ITS FALSE NEIGHBOUR: 'it returns false'. Refute it at one input. -/
def fnExactBoardAtWrong : ChangeSpec := { name := "fnExactBoardAt", fn := fun _ => fun
  | [d1, d2] => { results := [.lit (.bool false)], args := [d1, d2] }
  | _ => none }
def FnExactBoardAtWrongFalsely : Prop := fnExactBoardAtRow.holds Try.pinned (OpenSpec.ofChange fnExactBoardAtWrong)

/-- 'laws.FnExactReplayScore': WHATEVER THE INPUT: true; the input reads as it did. -/
def fnExactReplayScoreSpec : ChangeSpec := { name := "fnExactReplayScore", fn := fun _ => fun
  | [d] => { results := [.lit (.bool true)], args := [d] }
  | _ => none }
def fnExactReplayScoreRow : OpenClaim := { program := "ytekdodlkimgbhaa", sum := "dce98582ceddeac5550893fbd0c342bbf2b92c54e5f6bcd9f496598889743aee", func := "loop.example/g01194/laws.FnExactReplayScore", spec := "fnExactReplayScore", unfollowed := true, recurses := true, apart := false }
def FnExactReplayScoreSaid : Prop := fnExactReplayScoreRow.holds Try.pinned (OpenSpec.ofChange fnExactReplayScoreSpec)

/-- ITS FALSE NEIGHBOUR: 'it returns false'. Refute it at one input. -/
def fnExactReplayScoreWrong : ChangeSpec := { name := "fnExactReplayScore", fn := fun _ => fun
  | [d] => { results := [.lit (.bool false)], args := [d] }
  | _ => none }
def FnExactReplayScoreWrongFalsely : Prop := fnExactReplayScoreRow.holds Try.pinned (OpenSpec.ofChange fnExactReplayScoreWrong)

/-- 'laws.FnExactAddStep': WHATEVER THE INPUT: true; the input reads as it did. -/
def fnExactAddStepSpec : ChangeSpec := { name := "fnExactAddStep", fn := fun _ => fun
  | [d1, d2] => { results := [.lit (.bool true)], args := [d1, d2] }
  | _ => none }
def fnExactAddStepRow : OpenClaim := { program := "ytekdodlkimgbhaa", sum := "dce98582ceddeac5550893fbd0c342bbf2b92c54e5f6bcd9f496598889743aee", func := "loop.example/g01194/laws.FnExactAddStep", spec := "fnExactAddStep", unfollowed := true, recurses := true, apart := false }
def FnExactAddStepSaid : Prop := fnExactAddStepRow.holds Try.pinned (OpenSpec.ofChange fnExactAddStepSpec)

/-- ITS FALSE NEIGHBOUR: 'it returns false'. Refute it at one input. -/
def fnExactAddStepWrong : ChangeSpec := { name := "fnExactAddStep", fn := fun _ => fun
  | [d1, d2] => { results := [.lit (.bool false)], args := [d1, d2] }
  | _ => none }
def FnExactAddStepWrongFalsely : Prop := fnExactAddStepRow.holds Try.pinned (OpenSpec.ofChange fnExactAddStepWrong)

/-- 'laws.FnExactUndoSteps': WHATEVER THE INPUT: true; the input reads as it did. -/
def fnExactUndoStepsSpec : ChangeSpec := { name := "fnExactUndoSteps", fn := fun _ => fun
  | [d1, d2] => { results := [.lit (.bool true)], args := [d1, d2] }
  | _ => none }
def fnExactUndoStepsRow : OpenClaim := { program := "ytekdodlkimgbhaa", sum := "dce98582ceddeac5550893fbd0c342bbf2b92c54e5f6bcd9f496598889743aee", func := "loop.example/g01194/laws.FnExactUndoSteps", spec := "fnExactUndoSteps", unfollowed := true, recurses := true, apart := false }
def FnExactUndoStepsSaid : Prop := fnExactUndoStepsRow.holds Try.pinned (OpenSpec.ofChange fnExactUndoStepsSpec)

/-- ITS FALSE NEIGHBOUR: 'it returns false'. Refute it at one input. -/
def fnExactUndoStepsWrong : ChangeSpec := { name := "fnExactUndoSteps", fn := fun _ => fun
  | [d1, d2] => { results := [.lit (.bool false)], args := [d1, d2] }
  | _ => none }
def FnExactUndoStepsWrongFalsely : Prop := fnExactUndoStepsRow.holds Try.pinned (OpenSpec.ofChange fnExactUndoStepsWrong)

/-- 'laws.FnExactCommonSteps': WHATEVER THE INPUT: true; the input reads as it did. -/
def fnExactCommonStepsSpec : ChangeSpec := { name := "fnExactCommonSteps", fn := fun _ => fun
  | [d1, d2] => { results := [.lit (.bool true)], args := [d1, d2] }
  | _ => none }
def fnExactCommonStepsRow : OpenClaim := { program := "ytekdodlkimgbhaa", sum := "dce98582ceddeac5550893fbd0c342bbf2b92c54e5f6bcd9f496598889743aee", func := "loop.example/g01194/laws.FnExactCommonSteps", spec := "fnExactCommonSteps", unfollowed := true, recurses := true, apart := false }
def FnExactCommonStepsSaid : Prop := fnExactCommonStepsRow.holds Try.pinned (OpenSpec.ofChange fnExactCommonStepsSpec)

/-- ITS FALSE NEIGHBOUR: 'it returns false'. Refute it at one input. -/
def fnExactCommonStepsWrong : ChangeSpec := { name := "fnExactCommonSteps", fn := fun _ => fun
  | [d1, d2] => { results := [.lit (.bool false)], args := [d1, d2] }
  | _ => none }
def FnExactCommonStepsWrongFalsely : Prop := fnExactCommonStepsRow.holds Try.pinned (OpenSpec.ofChange fnExactCommonStepsWrong)

/-- 'laws.FnExactFirstParting': WHATEVER THE INPUT: true; the input reads as it did. -/
def fnExactFirstPartingSpec : ChangeSpec := { name := "fnExactFirstParting", fn := fun _ => fun
  | [d1, d2] => { results := [.lit (.bool true)], args := [d1, d2] }
  | _ => none }
def fnExactFirstPartingRow : OpenClaim := { program := "ytekdodlkimgbhaa", sum := "dce98582ceddeac5550893fbd0c342bbf2b92c54e5f6bcd9f496598889743aee", func := "loop.example/g01194/laws.FnExactFirstParting", spec := "fnExactFirstParting", unfollowed := true, recurses := true, apart := false }
def FnExactFirstPartingSaid : Prop := fnExactFirstPartingRow.holds Try.pinned (OpenSpec.ofChange fnExactFirstPartingSpec)

/-- ITS FALSE NEIGHBOUR: 'it returns false'. Refute it at one input. -/
def fnExactFirstPartingWrong : ChangeSpec := { name := "fnExactFirstParting", fn := fun _ => fun
  | [d1, d2] => { results := [.lit (.bool false)], args := [d1, d2] }
  | _ => none }
def FnExactFirstPartingWrongFalsely : Prop := fnExactFirstPartingRow.holds Try.pinned (OpenSpec.ofChange fnExactFirstPartingWrong)

/-- 'laws.FnExactHighestIn': WHATEVER THE INPUT: true; the input reads as it did. -/
def fnExactHighestInSpec : ChangeSpec := { name := "fnExactHighestIn", fn := fun _ => fun
  | [d] => { results := [.lit (.bool true)], args := [d] }
  | _ => none }
def fnExactHighestInRow : OpenClaim := { program := "ytekdodlkimgbhaa", sum := "dce98582ceddeac5550893fbd0c342bbf2b92c54e5f6bcd9f496598889743aee", func := "loop.example/g01194/laws.FnExactHighestIn", spec := "fnExactHighestIn", unfollowed := true, recurses := true, apart := false }
def FnExactHighestInSaid : Prop := fnExactHighestInRow.holds Try.pinned (OpenSpec.ofChange fnExactHighestInSpec)

/-- ITS FALSE NEIGHBOUR: 'it returns false'. Refute it at one input. -/
def fnExactHighestInWrong : ChangeSpec := { name := "fnExactHighestIn", fn := fun _ => fun
  | [d] => { results := [.lit (.bool false)], args := [d] }
  | _ => none }
def FnExactHighestInWrongFalsely : Prop := fnExactHighestInRow.holds Try.pinned (OpenSpec.ofChange fnExactHighestInWrong)

/-- 'laws.FnExactStepText': WHATEVER THE INPUT: true; the input reads as it did. -/
def fnExactStepTextSpec : ChangeSpec := { name := "fnExactStepText", fn := fun _ => fun
  | [d] => { results := [.lit (.bool true)], args := [d] }
  | _ => none }
def fnExactStepTextRow : OpenClaim := { program := "ytekdodlkimgbhaa", sum := "dce98582ceddeac5550893fbd0c342bbf2b92c54e5f6bcd9f496598889743aee", func := "loop.example/g01194/laws.FnExactStepText", spec := "fnExactStepText", recurses := true, apart := false }
def FnExactStepTextSaid : Prop := fnExactStepTextRow.holds Try.pinned (OpenSpec.ofChange fnExactStepTextSpec)

/-- ITS FALSE NEIGHBOUR: 'it returns false'. Refute it at one input. -/
def fnExactStepTextWrong : ChangeSpec := { name := "fnExactStepText", fn := fun _ => fun
  | [d] => { results := [.lit (.bool false)], args := [d] }
  | _ => none }
def FnExactStepTextWrongFalsely : Prop := fnExactStepTextRow.holds Try.pinned (OpenSpec.ofChange fnExactStepTextWrong)

/-- 'laws.FnExactReplayText': WHATEVER THE INPUT: true; the input reads as it did. -/
def fnExactReplayTextSpec : ChangeSpec := { name := "fnExactReplayText", fn := fun _ => fun
  | [d] => { results := [.lit (.bool true)], args := [d] }
  | _ => none }
def fnExactReplayTextRow : OpenClaim := { program := "ytekdodlkimgbhaa", sum := "dce98582ceddeac5550893fbd0c342bbf2b92c54e5f6bcd9f496598889743aee", func := "loop.example/g01194/laws.FnExactReplayText", spec := "fnExactReplayText", inPlace := ["internal/abi.NoEscape", "internal/bytealg.MakeNoZero"], unfollowed := true, recurses := true, apart := false }
def FnExactReplayTextSaid : Prop := fnExactReplayTextRow.holds Try.pinned (OpenSpec.ofChange fnExactReplayTextSpec)

/-- ITS FALSE NEIGHBOUR: 'it returns false'. Refute it at one input. -/
def fnExactReplayTextWrong : ChangeSpec := { name := "fnExactReplayText", fn := fun _ => fun
  | [d] => { results := [.lit (.bool false)], args := [d] }
  | _ => none }
def FnExactReplayTextWrongFalsely : Prop := fnExactReplayTextRow.holds Try.pinned (OpenSpec.ofChange fnExactReplayTextWrong)

/-- 'laws.FnExactParseReplay': WHATEVER THE INPUT: true; the input reads as it did. -/
def fnExactParseReplaySpec : ChangeSpec := { name := "fnExactParseReplay", fn := fun _ => fun
  | [d] => { results := [.lit (.bool true)], args := [d] }
  | _ => none }
def fnExactParseReplayRow : OpenClaim := { program := "ytekdodlkimgbhaa", sum := "dce98582ceddeac5550893fbd0c342bbf2b92c54e5f6bcd9f496598889743aee", func := "loop.example/g01194/laws.FnExactParseReplay", spec := "fnExactParseReplay", inPlace := ["internal/bytealg.IndexByteString", "internal/bytealg.IndexString", "internal/abi.NoEscape", "internal/bytealg.MakeNoZero"], unfollowed := true, recurses := true, named := ["internal/bytealg.MaxLen"], apart := false }
def FnExactParseReplaySaid : Prop := fnExactParseReplayRow.holds Try.pinned (OpenSpec.ofChange fnExactParseReplaySpec)

/-- ITS FALSE NEIGHBOUR: 'it returns false'. Refute it at one input. -/
def fnExactParseReplayWrong : ChangeSpec := { name := "fnExactParseReplay", fn := fun _ => fun
  | [d] => { results := [.lit (.bool false)], args := [d] }
  | _ => none }
def FnExactParseReplayWrongFalsely : Prop := fnExactParseReplayRow.holds Try.pinned (OpenSpec.ofChange fnExactParseReplayWrong)

/-- 'laws.FnExactNextSeed': WHATEVER THE INPUT: true; the input reads as it did. -/
def fnExactNextSeedSpec : ChangeSpec := { name := "fnExactNextSeed", fn := fun _ => fun
  | [d] => { results := [.lit (.bool true)], args := [d] }
  | _ => none }
def fnExactNextSeedRow : OpenClaim := { program := "ytekdodlkimgbhaa", sum := "dce98582ceddeac5550893fbd0c342bbf2b92c54e5f6bcd9f496598889743aee", func := "loop.example/g01194/laws.FnExactNextSeed", spec := "fnExactNextSeed", apart := false }
def FnExactNextSeedSaid : Prop := fnExactNextSeedRow.holds Try.pinned (OpenSpec.ofChange fnExactNextSeedSpec)

/-- ITS FALSE NEIGHBOUR: 'it returns false'. Refute it at one input. -/
def fnExactNextSeedWrong : ChangeSpec := { name := "fnExactNextSeed", fn := fun _ => fun
  | [d] => { results := [.lit (.bool false)], args := [d] }
  | _ => none }
def FnExactNextSeedWrongFalsely : Prop := fnExactNextSeedRow.holds Try.pinned (OpenSpec.ofChange fnExactNextSeedWrong)

/- THE SECOND FORM. 'bulk': how many values and letters a reading holds, each counted each time it is reached (what is shared counts as often as it is met; a slice's spare places count too). A statement '..UptoSaid' is the law's where the arguments, and the package variables that the reading takes, are together of bulk at most 1048576: NARROWER than '..Said'. Prove '..Said' where nothing that the law and all that it calls make is longer than what came in: it says more and counts as full. Else prove '..UptoSaid'. A law counts once. -/
mutual
def uptoBulk {H : Type} : DataW H → Nat
  | .lit (.string bytes) => bytes.length + 1
  | .lit _ => 1
  | .nil => 1
  | .ptr d => uptoBulk d + 1
  | .slice elems spare => uptoBulkAll elems + uptoBulkAll spare + 1
  | .agg parts => uptoBulkAll parts + 1
  | .iface _ d => uptoBulk d + 1
  | .map entries => uptoBulkEntries entries + 1
  | .held _ => 1
def uptoBulkAll {H : Type} : List (DataW H) → Nat
  | [] => 0
  | d :: r => uptoBulk d + uptoBulkAll r
def uptoBulkEntries {H : Type} : List (Lit × DataW H) → Nat
  | [] => 0
  | x :: r => uptoBulkEntry x + uptoBulkEntries r
def uptoBulkEntry {H : Type} : Lit × DataW H → Nat
  | (.string bytes, d) => bytes.length + uptoBulk d + 1
  | (_, d) => uptoBulk d + 1
 end
def uptoSmall : (H : Type) → List (DataW H) → Bool := fun _ ds => decide (uptoBulkAll ds ≤ 1048576)
def OpenSpec.upto (s : _root_.Go.ChangeSpec) : _root_.Go.OpenSpec := { _root_.Go.OpenSpec.ofChange s with cond := some uptoSmall }

/-- 'laws.FnExactIsReplay', WHERE WHAT IT READS IS OF BULK AT MOST 1048576: true; the input reads as it did. -/
def fnExactIsReplayUptoRow : OpenClaim := { program := "ytekdodlkimgbhaa", sum := "dce98582ceddeac5550893fbd0c342bbf2b92c54e5f6bcd9f496598889743aee", func := "loop.example/g01194/laws.FnExactIsReplay", spec := "fnExactIsReplay", unfollowed := true, recurses := true, apart := false, narrowed := true }
def FnExactIsReplayUptoSaid : Prop := fnExactIsReplayUptoRow.holds Try.pinned (OpenSpec.upto fnExactIsReplaySpec)

/-- 'laws.FnExactBoardAt', WHERE WHAT IT READS IS OF BULK AT MOST 1048576: true; the input reads as it did. -/
def fnExactBoardAtUptoRow : OpenClaim := { program := "ytekdodlkimgbhaa", sum := "dce98582ceddeac5550893fbd0c342bbf2b92c54e5f6bcd9f496598889743aee", func := "loop.example/g01194/laws.FnExactBoardAt", spec := "fnExactBoardAt", unfollowed := true, recurses := true, apart := false, narrowed := true }
def FnExactBoardAtUptoSaid : Prop := fnExactBoardAtUptoRow.holds Try.pinned (OpenSpec.upto fnExactBoardAtSpec)

/-- 'laws.FnExactReplayScore', WHERE WHAT IT READS IS OF BULK AT MOST 1048576: true; the input reads as it did. -/
def fnExactReplayScoreUptoRow : OpenClaim := { program := "ytekdodlkimgbhaa", sum := "dce98582ceddeac5550893fbd0c342bbf2b92c54e5f6bcd9f496598889743aee", func := "loop.example/g01194/laws.FnExactReplayScore", spec := "fnExactReplayScore", unfollowed := true, recurses := true, apart := false, narrowed := true }
def FnExactReplayScoreUptoSaid : Prop := fnExactReplayScoreUptoRow.holds Try.pinned (OpenSpec.upto fnExactReplayScoreSpec)

/-- 'laws.FnExactAddStep', WHERE WHAT IT READS IS OF BULK AT MOST 1048576: true; the input reads as it did. -/
def fnExactAddStepUptoRow : OpenClaim := { program := "ytekdodlkimgbhaa", sum := "dce98582ceddeac5550893fbd0c342bbf2b92c54e5f6bcd9f496598889743aee", func := "loop.example/g01194/laws.FnExactAddStep", spec := "fnExactAddStep", unfollowed := true, recurses := true, apart := false, narrowed := true }
def FnExactAddStepUptoSaid : Prop := fnExactAddStepUptoRow.holds Try.pinned (OpenSpec.upto fnExactAddStepSpec)

/-- 'laws.FnExactUndoSteps', WHERE WHAT IT READS IS OF BULK AT MOST 1048576: true; the input reads as it did. -/
def fnExactUndoStepsUptoRow : OpenClaim := { program := "ytekdodlkimgbhaa", sum := "dce98582ceddeac5550893fbd0c342bbf2b92c54e5f6bcd9f496598889743aee", func := "loop.example/g01194/laws.FnExactUndoSteps", spec := "fnExactUndoSteps", unfollowed := true, recurses := true, apart := false, narrowed := true }
def FnExactUndoStepsUptoSaid : Prop := fnExactUndoStepsUptoRow.holds Try.pinned (OpenSpec.upto fnExactUndoStepsSpec)

/-- 'laws.FnExactCommonSteps', WHERE WHAT IT READS IS OF BULK AT MOST 1048576: true; the input reads as it did. -/
def fnExactCommonStepsUptoRow : OpenClaim := { program := "ytekdodlkimgbhaa", sum := "dce98582ceddeac5550893fbd0c342bbf2b92c54e5f6bcd9f496598889743aee", func := "loop.example/g01194/laws.FnExactCommonSteps", spec := "fnExactCommonSteps", unfollowed := true, recurses := true, apart := false, narrowed := true }
def FnExactCommonStepsUptoSaid : Prop := fnExactCommonStepsUptoRow.holds Try.pinned (OpenSpec.upto fnExactCommonStepsSpec)

/-- 'laws.FnExactFirstParting', WHERE WHAT IT READS IS OF BULK AT MOST 1048576: true; the input reads as it did. -/
def fnExactFirstPartingUptoRow : OpenClaim := { program := "ytekdodlkimgbhaa", sum := "dce98582ceddeac5550893fbd0c342bbf2b92c54e5f6bcd9f496598889743aee", func := "loop.example/g01194/laws.FnExactFirstParting", spec := "fnExactFirstParting", unfollowed := true, recurses := true, apart := false, narrowed := true }
def FnExactFirstPartingUptoSaid : Prop := fnExactFirstPartingUptoRow.holds Try.pinned (OpenSpec.upto fnExactFirstPartingSpec)

/-- 'laws.FnExactHighestIn', WHERE WHAT IT READS IS OF BULK AT MOST 1048576: true; the input reads as it did. -/
def fnExactHighestInUptoRow : OpenClaim := { program := "ytekdodlkimgbhaa", sum := "dce98582ceddeac5550893fbd0c342bbf2b92c54e5f6bcd9f496598889743aee", func := "loop.example/g01194/laws.FnExactHighestIn", spec := "fnExactHighestIn", unfollowed := true, recurses := true, apart := false, narrowed := true }
def FnExactHighestInUptoSaid : Prop := fnExactHighestInUptoRow.holds Try.pinned (OpenSpec.upto fnExactHighestInSpec)

/-- 'laws.FnExactStepText', WHERE WHAT IT READS IS OF BULK AT MOST 1048576: true; the input reads as it did. -/
def fnExactStepTextUptoRow : OpenClaim := { program := "ytekdodlkimgbhaa", sum := "dce98582ceddeac5550893fbd0c342bbf2b92c54e5f6bcd9f496598889743aee", func := "loop.example/g01194/laws.FnExactStepText", spec := "fnExactStepText", recurses := true, apart := false, narrowed := true }
def FnExactStepTextUptoSaid : Prop := fnExactStepTextUptoRow.holds Try.pinned (OpenSpec.upto fnExactStepTextSpec)

/-- 'laws.FnExactReplayText', WHERE WHAT IT READS IS OF BULK AT MOST 1048576: true; the input reads as it did. -/
def fnExactReplayTextUptoRow : OpenClaim := { program := "ytekdodlkimgbhaa", sum := "dce98582ceddeac5550893fbd0c342bbf2b92c54e5f6bcd9f496598889743aee", func := "loop.example/g01194/laws.FnExactReplayText", spec := "fnExactReplayText", inPlace := ["internal/abi.NoEscape", "internal/bytealg.MakeNoZero"], unfollowed := true, recurses := true, apart := false, narrowed := true }
def FnExactReplayTextUptoSaid : Prop := fnExactReplayTextUptoRow.holds Try.pinned (OpenSpec.upto fnExactReplayTextSpec)

/-- 'laws.FnExactParseReplay', WHERE WHAT IT READS IS OF BULK AT MOST 1048576: true; the input reads as it did. -/
def fnExactParseReplayUptoRow : OpenClaim := { program := "ytekdodlkimgbhaa", sum := "dce98582ceddeac5550893fbd0c342bbf2b92c54e5f6bcd9f496598889743aee", func := "loop.example/g01194/laws.FnExactParseReplay", spec := "fnExactParseReplay", inPlace := ["internal/bytealg.IndexByteString", "internal/bytealg.IndexString", "internal/abi.NoEscape", "internal/bytealg.MakeNoZero"], unfollowed := true, recurses := true, named := ["internal/bytealg.MaxLen"], apart := false, narrowed := true }
def FnExactParseReplayUptoSaid : Prop := fnExactParseReplayUptoRow.holds Try.pinned (OpenSpec.upto fnExactParseReplaySpec)

/-- 'laws.FnExactNextSeed', WHERE WHAT IT READS IS OF BULK AT MOST 1048576: true; the input reads as it did. -/
def fnExactNextSeedUptoRow : OpenClaim := { program := "ytekdodlkimgbhaa", sum := "dce98582ceddeac5550893fbd0c342bbf2b92c54e5f6bcd9f496598889743aee", func := "loop.example/g01194/laws.FnExactNextSeed", spec := "fnExactNextSeed", apart := false, narrowed := true }
def FnExactNextSeedUptoSaid : Prop := fnExactNextSeedUptoRow.holds Try.pinned (OpenSpec.upto fnExactNextSeedSpec)

end Rows
end Go.Proofs.Ytekdodlkimgbhaa
