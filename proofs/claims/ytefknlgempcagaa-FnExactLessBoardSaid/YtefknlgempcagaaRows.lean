/-
  No cell of these rows narrows 'for every input' (looked for: loops, veiled, ifaces, maps, wideKeys, modest, calm, conditions, laid).
  DERIVED. THE GIVEN ROWS OF THIS SEAT. 18 by the template 'for every input the law returns true; each argument reads behind the call as it read before'; 0 by the template 'total and deterministic' (their statements: YtefknlgempcagaaTotals.lean).
  GIVEN WITH THE SEED: the statements are not yours to turn. If you find one false, say at which input.
  Laid BY PROGRAM, IN A SANDBOX (cutbox-rows.mjs): the forced cells as the released guide's own fill.sh prints them over the translation 47cb070853cf1d34… (all of the seat's roots in one cut). By AI agents, Wed Nov 11 2026. No macro, syntax, notation, axiom, sorry.
-/
import Derived.Test.YtefknlgempcagaaChecked
import GoSem.Claim
import GoSem.ClaimJoined
import GoSem.ClaimMapViews
import Derived.JoinedTies
import Derived.KernelRfl
namespace Go.Proofs.Ytefknlgempcagaa
/- THE CELL 'sum', in the pinned program and in every row, IS THE sha256 OF THE DUMP (.gsa) THAT YtefknlgempcagaaProg.lean LOADS. Nothing in Lean hashes anything: it is a label: what it is worth is what the hold of that sum in a sandbox is worth. -/
noncomputable def Try.pinned : Pinned := { name := "ytefknlgempcagaa", sum := "47cb070853cf1d34110fbf0b8cc748291d174797ae1673bfb807102caf9e85be", checked := Try.checked }
namespace Rows
def none {H : Type} : Left H := { results := [], args := [] }

/-- 'laws.FnSlidesKeep': WHATEVER THE INPUT: true; the input reads as it did. -/
def fnSlidesKeepSpec : ChangeSpec := { name := "fnSlidesKeep", fn := fun _ => fun
  | [d] => { results := [.lit (.bool true)], args := [d] }
  | _ => none }
def fnSlidesKeepRow : OpenClaim := { program := "ytefknlgempcagaa", sum := "47cb070853cf1d34110fbf0b8cc748291d174797ae1673bfb807102caf9e85be", func := "loop.example/g01194/laws.FnSlidesKeep", spec := "fnSlidesKeep", unfollowed := true, recurses := true, apart := false }
def FnSlidesKeepSaid : Prop := fnSlidesKeepRow.holds Try.pinned (OpenSpec.ofChange fnSlidesKeepSpec)

/-- ITS FALSE NEIGHBOUR: 'it returns false'. Refute it at one input. -/
def fnSlidesKeepWrong : ChangeSpec := { name := "fnSlidesKeep", fn := fun _ => fun
  | [d] => { results := [.lit (.bool false)], args := [d] }
  | _ => none }
def FnSlidesKeepWrongFalsely : Prop := fnSlidesKeepRow.holds Try.pinned (OpenSpec.ofChange fnSlidesKeepWrong)

/-- 'laws.FnBoards': WHATEVER THE INPUT: true; the input reads as it did. -/
def fnBoardsSpec : ChangeSpec := { name := "fnBoards", fn := fun _ => fun
  | [d] => { results := [.lit (.bool true)], args := [d] }
  | _ => none }
def fnBoardsRow : OpenClaim := { program := "ytefknlgempcagaa", sum := "47cb070853cf1d34110fbf0b8cc748291d174797ae1673bfb807102caf9e85be", func := "loop.example/g01194/laws.FnBoards", spec := "fnBoards", unfollowed := true, recurses := true, apart := false }
def FnBoardsSaid : Prop := fnBoardsRow.holds Try.pinned (OpenSpec.ofChange fnBoardsSpec)

/-- ITS FALSE NEIGHBOUR: 'it returns false'. Refute it at one input. -/
def fnBoardsWrong : ChangeSpec := { name := "fnBoards", fn := fun _ => fun
  | [d] => { results := [.lit (.bool false)], args := [d] }
  | _ => none }
def FnBoardsWrongFalsely : Prop := fnBoardsRow.holds Try.pinned (OpenSpec.ofChange fnBoardsWrong)

/-- 'laws.FnExactIsBoard': WHATEVER THE INPUT: true; the input reads as it did. -/
def fnExactIsBoardSpec : ChangeSpec := { name := "fnExactIsBoard", fn := fun _ => fun
  | [d] => { results := [.lit (.bool true)], args := [d] }
  | _ => none }
def fnExactIsBoardRow : OpenClaim := { program := "ytefknlgempcagaa", sum := "47cb070853cf1d34110fbf0b8cc748291d174797ae1673bfb807102caf9e85be", func := "loop.example/g01194/laws.FnExactIsBoard", spec := "fnExactIsBoard", apart := false }
def FnExactIsBoardSaid : Prop := fnExactIsBoardRow.holds Try.pinned (OpenSpec.ofChange fnExactIsBoardSpec)

/-- ITS FALSE NEIGHBOUR: 'it returns false'. Refute it at one input. -/
def fnExactIsBoardWrong : ChangeSpec := { name := "fnExactIsBoard", fn := fun _ => fun
  | [d] => { results := [.lit (.bool false)], args := [d] }
  | _ => none }
def FnExactIsBoardWrongFalsely : Prop := fnExactIsBoardRow.holds Try.pinned (OpenSpec.ofChange fnExactIsBoardWrong)

/-- 'laws.FnExactSlideBoard': WHATEVER THE INPUT: true; the input reads as it did. -/
def fnExactSlideBoardSpec : ChangeSpec := { name := "fnExactSlideBoard", fn := fun _ => fun
  | [d1, d2] => { results := [.lit (.bool true)], args := [d1, d2] }
  | _ => none }
def fnExactSlideBoardRow : OpenClaim := { program := "ytefknlgempcagaa", sum := "47cb070853cf1d34110fbf0b8cc748291d174797ae1673bfb807102caf9e85be", func := "loop.example/g01194/laws.FnExactSlideBoard", spec := "fnExactSlideBoard", unfollowed := true, recurses := true, apart := false }
def FnExactSlideBoardSaid : Prop := fnExactSlideBoardRow.holds Try.pinned (OpenSpec.ofChange fnExactSlideBoardSpec)

/-- ITS FALSE NEIGHBOUR: 'it returns false'. Refute it at one input. -/
def fnExactSlideBoardWrong : ChangeSpec := { name := "fnExactSlideBoard", fn := fun _ => fun
  | [d1, d2] => { results := [.lit (.bool false)], args := [d1, d2] }
  | _ => none }
def FnExactSlideBoardWrongFalsely : Prop := fnExactSlideBoardRow.holds Try.pinned (OpenSpec.ofChange fnExactSlideBoardWrong)

/-- 'laws.FnExactMovesOf': WHATEVER THE INPUT: true; the input reads as it did. -/
def fnExactMovesOfSpec : ChangeSpec := { name := "fnExactMovesOf", fn := fun _ => fun
  | [d] => { results := [.lit (.bool true)], args := [d] }
  | _ => none }
def fnExactMovesOfRow : OpenClaim := { program := "ytefknlgempcagaa", sum := "47cb070853cf1d34110fbf0b8cc748291d174797ae1673bfb807102caf9e85be", func := "loop.example/g01194/laws.FnExactMovesOf", spec := "fnExactMovesOf", unfollowed := true, recurses := true, apart := false }
def FnExactMovesOfSaid : Prop := fnExactMovesOfRow.holds Try.pinned (OpenSpec.ofChange fnExactMovesOfSpec)

/-- ITS FALSE NEIGHBOUR: 'it returns false'. Refute it at one input. -/
def fnExactMovesOfWrong : ChangeSpec := { name := "fnExactMovesOf", fn := fun _ => fun
  | [d] => { results := [.lit (.bool false)], args := [d] }
  | _ => none }
def FnExactMovesOfWrongFalsely : Prop := fnExactMovesOfRow.holds Try.pinned (OpenSpec.ofChange fnExactMovesOfWrong)

/-- 'laws.FnExactIsOver': WHATEVER THE INPUT: true; the input reads as it did. -/
def fnExactIsOverSpec : ChangeSpec := { name := "fnExactIsOver", fn := fun _ => fun
  | [d] => { results := [.lit (.bool true)], args := [d] }
  | _ => none }
def fnExactIsOverRow : OpenClaim := { program := "ytefknlgempcagaa", sum := "47cb070853cf1d34110fbf0b8cc748291d174797ae1673bfb807102caf9e85be", func := "loop.example/g01194/laws.FnExactIsOver", spec := "fnExactIsOver", unfollowed := true, recurses := true, apart := false }
def FnExactIsOverSaid : Prop := fnExactIsOverRow.holds Try.pinned (OpenSpec.ofChange fnExactIsOverSpec)

/-- ITS FALSE NEIGHBOUR: 'it returns false'. Refute it at one input. -/
def fnExactIsOverWrong : ChangeSpec := { name := "fnExactIsOver", fn := fun _ => fun
  | [d] => { results := [.lit (.bool false)], args := [d] }
  | _ => none }
def FnExactIsOverWrongFalsely : Prop := fnExactIsOverRow.holds Try.pinned (OpenSpec.ofChange fnExactIsOverWrong)

/-- 'laws.FnExactMergersOf': WHATEVER THE INPUT: true; the input reads as it did. -/
def fnExactMergersOfSpec : ChangeSpec := { name := "fnExactMergersOf", fn := fun _ => fun
  | [d1, d2] => { results := [.lit (.bool true)], args := [d1, d2] }
  | _ => none }
def fnExactMergersOfRow : OpenClaim := { program := "ytefknlgempcagaa", sum := "47cb070853cf1d34110fbf0b8cc748291d174797ae1673bfb807102caf9e85be", func := "loop.example/g01194/laws.FnExactMergersOf", spec := "fnExactMergersOf", unfollowed := true, recurses := true, apart := false }
def FnExactMergersOfSaid : Prop := fnExactMergersOfRow.holds Try.pinned (OpenSpec.ofChange fnExactMergersOfSpec)

/-- ITS FALSE NEIGHBOUR: 'it returns false'. Refute it at one input. -/
def fnExactMergersOfWrong : ChangeSpec := { name := "fnExactMergersOf", fn := fun _ => fun
  | [d1, d2] => { results := [.lit (.bool false)], args := [d1, d2] }
  | _ => none }
def FnExactMergersOfWrongFalsely : Prop := fnExactMergersOfRow.holds Try.pinned (OpenSpec.ofChange fnExactMergersOfWrong)

/-- 'laws.FnExactEmptyCells': WHATEVER THE INPUT: true; the input reads as it did. -/
def fnExactEmptyCellsSpec : ChangeSpec := { name := "fnExactEmptyCells", fn := fun _ => fun
  | [d] => { results := [.lit (.bool true)], args := [d] }
  | _ => none }
def fnExactEmptyCellsRow : OpenClaim := { program := "ytefknlgempcagaa", sum := "47cb070853cf1d34110fbf0b8cc748291d174797ae1673bfb807102caf9e85be", func := "loop.example/g01194/laws.FnExactEmptyCells", spec := "fnExactEmptyCells", apart := false }
def FnExactEmptyCellsSaid : Prop := fnExactEmptyCellsRow.holds Try.pinned (OpenSpec.ofChange fnExactEmptyCellsSpec)

/-- ITS FALSE NEIGHBOUR: 'it returns false'. Refute it at one input. -/
def fnExactEmptyCellsWrong : ChangeSpec := { name := "fnExactEmptyCells", fn := fun _ => fun
  | [d] => { results := [.lit (.bool false)], args := [d] }
  | _ => none }
def FnExactEmptyCellsWrongFalsely : Prop := fnExactEmptyCellsRow.holds Try.pinned (OpenSpec.ofChange fnExactEmptyCellsWrong)

/-- 'laws.FnExactPutTile': WHATEVER THE INPUT: true; the input reads as it did. -/
def fnExactPutTileSpec : ChangeSpec := { name := "fnExactPutTile", fn := fun _ => fun
  | [d1, d2, d3] => { results := [.lit (.bool true)], args := [d1, d2, d3] }
  | _ => none }
def fnExactPutTileRow : OpenClaim := { program := "ytefknlgempcagaa", sum := "47cb070853cf1d34110fbf0b8cc748291d174797ae1673bfb807102caf9e85be", func := "loop.example/g01194/laws.FnExactPutTile", spec := "fnExactPutTile", apart := false }
def FnExactPutTileSaid : Prop := fnExactPutTileRow.holds Try.pinned (OpenSpec.ofChange fnExactPutTileSpec)

/-- ITS FALSE NEIGHBOUR: 'it returns false'. Refute it at one input. -/
def fnExactPutTileWrong : ChangeSpec := { name := "fnExactPutTile", fn := fun _ => fun
  | [d1, d2, d3] => { results := [.lit (.bool false)], args := [d1, d2, d3] }
  | _ => none }
def FnExactPutTileWrongFalsely : Prop := fnExactPutTileRow.holds Try.pinned (OpenSpec.ofChange fnExactPutTileWrong)

/-- 'laws.FnExactTakeTile': WHATEVER THE INPUT: true; the input reads as it did. -/
def fnExactTakeTileSpec : ChangeSpec := { name := "fnExactTakeTile", fn := fun _ => fun
  | [d1, d2] => { results := [.lit (.bool true)], args := [d1, d2] }
  | _ => none }
def fnExactTakeTileRow : OpenClaim := { program := "ytefknlgempcagaa", sum := "47cb070853cf1d34110fbf0b8cc748291d174797ae1673bfb807102caf9e85be", func := "loop.example/g01194/laws.FnExactTakeTile", spec := "fnExactTakeTile", apart := false }
def FnExactTakeTileSaid : Prop := fnExactTakeTileRow.holds Try.pinned (OpenSpec.ofChange fnExactTakeTileSpec)

/-- ITS FALSE NEIGHBOUR: 'it returns false'. Refute it at one input. -/
def fnExactTakeTileWrong : ChangeSpec := { name := "fnExactTakeTile", fn := fun _ => fun
  | [d1, d2] => { results := [.lit (.bool false)], args := [d1, d2] }
  | _ => none }
def FnExactTakeTileWrongFalsely : Prop := fnExactTakeTileRow.holds Try.pinned (OpenSpec.ofChange fnExactTakeTileWrong)

/-- 'laws.FnExactSumOf': WHATEVER THE INPUT: true; the input reads as it did. -/
def fnExactSumOfSpec : ChangeSpec := { name := "fnExactSumOf", fn := fun _ => fun
  | [d] => { results := [.lit (.bool true)], args := [d] }
  | _ => none }
def fnExactSumOfRow : OpenClaim := { program := "ytefknlgempcagaa", sum := "47cb070853cf1d34110fbf0b8cc748291d174797ae1673bfb807102caf9e85be", func := "loop.example/g01194/laws.FnExactSumOf", spec := "fnExactSumOf", apart := false }
def FnExactSumOfSaid : Prop := fnExactSumOfRow.holds Try.pinned (OpenSpec.ofChange fnExactSumOfSpec)

/-- ITS FALSE NEIGHBOUR: 'it returns false'. Refute it at one input. -/
def fnExactSumOfWrong : ChangeSpec := { name := "fnExactSumOf", fn := fun _ => fun
  | [d] => { results := [.lit (.bool false)], args := [d] }
  | _ => none }
def FnExactSumOfWrongFalsely : Prop := fnExactSumOfRow.holds Try.pinned (OpenSpec.ofChange fnExactSumOfWrong)

/-- 'laws.FnExactHighestTile': WHATEVER THE INPUT: true; the input reads as it did. -/
def fnExactHighestTileSpec : ChangeSpec := { name := "fnExactHighestTile", fn := fun _ => fun
  | [d] => { results := [.lit (.bool true)], args := [d] }
  | _ => none }
def fnExactHighestTileRow : OpenClaim := { program := "ytefknlgempcagaa", sum := "47cb070853cf1d34110fbf0b8cc748291d174797ae1673bfb807102caf9e85be", func := "loop.example/g01194/laws.FnExactHighestTile", spec := "fnExactHighestTile", apart := false }
def FnExactHighestTileSaid : Prop := fnExactHighestTileRow.holds Try.pinned (OpenSpec.ofChange fnExactHighestTileSpec)

/-- ITS FALSE NEIGHBOUR: 'it returns false'. Refute it at one input. -/
def fnExactHighestTileWrong : ChangeSpec := { name := "fnExactHighestTile", fn := fun _ => fun
  | [d] => { results := [.lit (.bool false)], args := [d] }
  | _ => none }
def FnExactHighestTileWrongFalsely : Prop := fnExactHighestTileRow.holds Try.pinned (OpenSpec.ofChange fnExactHighestTileWrong)

/-- 'laws.FnExactCountTiles': WHATEVER THE INPUT: true; the input reads as it did. -/
def fnExactCountTilesSpec : ChangeSpec := { name := "fnExactCountTiles", fn := fun _ => fun
  | [d] => { results := [.lit (.bool true)], args := [d] }
  | _ => none }
def fnExactCountTilesRow : OpenClaim := { program := "ytefknlgempcagaa", sum := "47cb070853cf1d34110fbf0b8cc748291d174797ae1673bfb807102caf9e85be", func := "loop.example/g01194/laws.FnExactCountTiles", spec := "fnExactCountTiles", apart := false }
def FnExactCountTilesSaid : Prop := fnExactCountTilesRow.holds Try.pinned (OpenSpec.ofChange fnExactCountTilesSpec)

/-- ITS FALSE NEIGHBOUR: 'it returns false'. Refute it at one input. -/
def fnExactCountTilesWrong : ChangeSpec := { name := "fnExactCountTiles", fn := fun _ => fun
  | [d] => { results := [.lit (.bool false)], args := [d] }
  | _ => none }
def FnExactCountTilesWrongFalsely : Prop := fnExactCountTilesRow.holds Try.pinned (OpenSpec.ofChange fnExactCountTilesWrong)

/-- 'laws.FnExactLineOf': WHATEVER THE INPUT: true; the input reads as it did. -/
def fnExactLineOfSpec : ChangeSpec := { name := "fnExactLineOf", fn := fun _ => fun
  | [d1, d2, d3] => { results := [.lit (.bool true)], args := [d1, d2, d3] }
  | _ => none }
def fnExactLineOfRow : OpenClaim := { program := "ytefknlgempcagaa", sum := "47cb070853cf1d34110fbf0b8cc748291d174797ae1673bfb807102caf9e85be", func := "loop.example/g01194/laws.FnExactLineOf", spec := "fnExactLineOf", unfollowed := true, recurses := true, apart := false }
def FnExactLineOfSaid : Prop := fnExactLineOfRow.holds Try.pinned (OpenSpec.ofChange fnExactLineOfSpec)

/-- ITS FALSE NEIGHBOUR: 'it returns false'. Refute it at one input. -/
def fnExactLineOfWrong : ChangeSpec := { name := "fnExactLineOf", fn := fun _ => fun
  | [d1, d2, d3] => { results := [.lit (.bool false)], args := [d1, d2, d3] }
  | _ => none }
def FnExactLineOfWrongFalsely : Prop := fnExactLineOfRow.holds Try.pinned (OpenSpec.ofChange fnExactLineOfWrong)

/-- 'laws.FnExactEqualPairs': WHATEVER THE INPUT: true; the input reads as it did. -/
def fnExactEqualPairsSpec : ChangeSpec := { name := "fnExactEqualPairs", fn := fun _ => fun
  | [d] => { results := [.lit (.bool true)], args := [d] }
  | _ => none }
def fnExactEqualPairsRow : OpenClaim := { program := "ytefknlgempcagaa", sum := "47cb070853cf1d34110fbf0b8cc748291d174797ae1673bfb807102caf9e85be", func := "loop.example/g01194/laws.FnExactEqualPairs", spec := "fnExactEqualPairs", apart := false }
def FnExactEqualPairsSaid : Prop := fnExactEqualPairsRow.holds Try.pinned (OpenSpec.ofChange fnExactEqualPairsSpec)

/-- ITS FALSE NEIGHBOUR: 'it returns false'. Refute it at one input. -/
def fnExactEqualPairsWrong : ChangeSpec := { name := "fnExactEqualPairs", fn := fun _ => fun
  | [d] => { results := [.lit (.bool false)], args := [d] }
  | _ => none }
def FnExactEqualPairsWrongFalsely : Prop := fnExactEqualPairsRow.holds Try.pinned (OpenSpec.ofChange fnExactEqualPairsWrong)

/-- 'laws.FnExactLessBoard': WHATEVER THE INPUT: true; the input reads as it did. -/
def fnExactLessBoardSpec : ChangeSpec := { name := "fnExactLessBoard", fn := fun _ => fun
  | [d1, d2] => { results := [.lit (.bool true)], args := [d1, d2] }
  | _ => none }
def fnExactLessBoardRow : OpenClaim := { program := "ytefknlgempcagaa", sum := "47cb070853cf1d34110fbf0b8cc748291d174797ae1673bfb807102caf9e85be", func := "loop.example/g01194/laws.FnExactLessBoard", spec := "fnExactLessBoard", apart := false }
def FnExactLessBoardSaid : Prop := fnExactLessBoardRow.holds Try.pinned (OpenSpec.ofChange fnExactLessBoardSpec)

/-- ITS FALSE NEIGHBOUR: 'it returns false'. Refute it at one input. -/
def fnExactLessBoardWrong : ChangeSpec := { name := "fnExactLessBoard", fn := fun _ => fun
  | [d1, d2] => { results := [.lit (.bool false)], args := [d1, d2] }
  | _ => none }
def FnExactLessBoardWrongFalsely : Prop := fnExactLessBoardRow.holds Try.pinned (OpenSpec.ofChange fnExactLessBoardWrong)

/-- 'laws.FnExactBoardText': WHATEVER THE INPUT: true; the input reads as it did. -/
def fnExactBoardTextSpec : ChangeSpec := { name := "fnExactBoardText", fn := fun _ => fun
  | [d] => { results := [.lit (.bool true)], args := [d] }
  | _ => none }
def fnExactBoardTextRow : OpenClaim := { program := "ytefknlgempcagaa", sum := "47cb070853cf1d34110fbf0b8cc748291d174797ae1673bfb807102caf9e85be", func := "loop.example/g01194/laws.FnExactBoardText", spec := "fnExactBoardText", apart := false }
def FnExactBoardTextSaid : Prop := fnExactBoardTextRow.holds Try.pinned (OpenSpec.ofChange fnExactBoardTextSpec)

/-- ITS FALSE NEIGHBOUR: 'it returns false'. Refute it at one input. -/
def fnExactBoardTextWrong : ChangeSpec := { name := "fnExactBoardText", fn := fun _ => fun
  | [d] => { results := [.lit (.bool false)], args := [d] }
  | _ => none }
def FnExactBoardTextWrongFalsely : Prop := fnExactBoardTextRow.holds Try.pinned (OpenSpec.ofChange fnExactBoardTextWrong)

/-- 'laws.FnExactParseBoard': WHATEVER THE INPUT: true; the input reads as it did. -/
def fnExactParseBoardSpec : ChangeSpec := { name := "fnExactParseBoard", fn := fun _ => fun
  | [d] => { results := [.lit (.bool true)], args := [d] }
  | _ => none }
def fnExactParseBoardRow : OpenClaim := { program := "ytefknlgempcagaa", sum := "47cb070853cf1d34110fbf0b8cc748291d174797ae1673bfb807102caf9e85be", func := "loop.example/g01194/laws.FnExactParseBoard", spec := "fnExactParseBoard", apart := false }
def FnExactParseBoardSaid : Prop := fnExactParseBoardRow.holds Try.pinned (OpenSpec.ofChange fnExactParseBoardSpec)

/-- ITS FALSE NEIGHBOUR: 'it returns false'. Refute it at one input. -/
def fnExactParseBoardWrong : ChangeSpec := { name := "fnExactParseBoard", fn := fun _ => fun
  | [d] => { results := [.lit (.bool false)], args := [d] }
  | _ => none }
def FnExactParseBoardWrongFalsely : Prop := fnExactParseBoardRow.holds Try.pinned (OpenSpec.ofChange fnExactParseBoardWrong)

/- THE SECOND FORM. 'bulk': how many values and letters a reading holds, each counted each time it is reached (what is shared counts as often as it is met; a slice's spare places count too). A statement '..UptoSaid' is the law's where the arguments, and the package variables that the reading takes, are together of bulk at most 1048576: NARROWER than '..Said'. Prove '..Said' where nothing that the law and all that it calls make is longer than what came in: it says more and counts as full. Else prove '..UptoSaid'. A law counts once. -/
mutual
def uptoBulk {H : Type} : DataW H → Nat
  | .lit (.string bytes) => bytes.length + 1
  | .lit _ => 1
  | .nil => 1
  | .ptr d => uptoBulk d + 1
  | .slice elems spare => uptoBulkAll elems + uptoBulkAll spare + 1
  | .agg parts => uptoBulkAll parts + 1
  | .iface _ d => uptoBulk d + 1
  | .map entries => uptoBulkEntries entries + 1
  | .held _ => 1
def uptoBulkAll {H : Type} : List (DataW H) → Nat
  | [] => 0
  | d :: r => uptoBulk d + uptoBulkAll r
def uptoBulkEntries {H : Type} : List (Lit × DataW H) → Nat
  | [] => 0
  | x :: r => uptoBulkEntry x + uptoBulkEntries r
def uptoBulkEntry {H : Type} : Lit × DataW H → Nat
  | (.string bytes, d) => bytes.length + uptoBulk d + 1
  | (_, d) => uptoBulk d + 1
 end
def uptoSmall : (H : Type) → List (DataW H) → Bool := fun _ ds => decide (uptoBulkAll ds ≤ 1048576)
def OpenSpec.upto (s : _root_.Go.ChangeSpec) : _root_.Go.OpenSpec := { _root_.Go.OpenSpec.ofChange s with cond := some uptoSmall }

/-- 'laws.FnSlidesKeep', WHERE WHAT IT READS IS OF BULK AT MOST 1048576: true; the input reads as it did. -/
def fnSlidesKeepUptoRow : OpenClaim := { program := "ytefknlgempcagaa", sum := "47cb070853cf1d34110fbf0b8cc748291d174797ae1673bfb807102caf9e85be", func := "loop.example/g01194/laws.FnSlidesKeep", spec := "fnSlidesKeep", unfollowed := true, recurses := true, apart := false, narrowed := true }
def FnSlidesKeepUptoSaid : Prop := fnSlidesKeepUptoRow.holds Try.pinned (OpenSpec.upto fnSlidesKeepSpec)

/-- 'laws.FnBoards', WHERE WHAT IT READS IS OF BULK AT MOST 1048576: true; the input reads as it did. -/
def fnBoardsUptoRow : OpenClaim := { program := "ytefknlgempcagaa", sum := "47cb070853cf1d34110fbf0b8cc748291d174797ae1673bfb807102caf9e85be", func := "loop.example/g01194/laws.FnBoards", spec := "fnBoards", unfollowed := true, recurses := true, apart := false, narrowed := true }
def FnBoardsUptoSaid : Prop := fnBoardsUptoRow.holds Try.pinned (OpenSpec.upto fnBoardsSpec)

/-- 'laws.FnExactIsBoard', WHERE WHAT IT READS IS OF BULK AT MOST 1048576: true; the input reads as it did. -/
def fnExactIsBoardUptoRow : OpenClaim := { program := "ytefknlgempcagaa", sum := "47cb070853cf1d34110fbf0b8cc748291d174797ae1673bfb807102caf9e85be", func := "loop.example/g01194/laws.FnExactIsBoard", spec := "fnExactIsBoard", apart := false, narrowed := true }
def FnExactIsBoardUptoSaid : Prop := fnExactIsBoardUptoRow.holds Try.pinned (OpenSpec.upto fnExactIsBoardSpec)

/-- 'laws.FnExactSlideBoard', WHERE WHAT IT READS IS OF BULK AT MOST 1048576: true; the input reads as it did. -/
def fnExactSlideBoardUptoRow : OpenClaim := { program := "ytefknlgempcagaa", sum := "47cb070853cf1d34110fbf0b8cc748291d174797ae1673bfb807102caf9e85be", func := "loop.example/g01194/laws.FnExactSlideBoard", spec := "fnExactSlideBoard", unfollowed := true, recurses := true, apart := false, narrowed := true }
def FnExactSlideBoardUptoSaid : Prop := fnExactSlideBoardUptoRow.holds Try.pinned (OpenSpec.upto fnExactSlideBoardSpec)

/-- 'laws.FnExactMovesOf', WHERE WHAT IT READS IS OF BULK AT MOST 1048576: true; the input reads as it did. -/
def fnExactMovesOfUptoRow : OpenClaim := { program := "ytefknlgempcagaa", sum := "47cb070853cf1d34110fbf0b8cc748291d174797ae1673bfb807102caf9e85be", func := "loop.example/g01194/laws.FnExactMovesOf", spec := "fnExactMovesOf", unfollowed := true, recurses := true, apart := false, narrowed := true }
def FnExactMovesOfUptoSaid : Prop := fnExactMovesOfUptoRow.holds Try.pinned (OpenSpec.upto fnExactMovesOfSpec)

/-- 'laws.FnExactIsOver', WHERE WHAT IT READS IS OF BULK AT MOST 1048576: true; the input reads as it did. -/
def fnExactIsOverUptoRow : OpenClaim := { program := "ytefknlgempcagaa", sum := "47cb070853cf1d34110fbf0b8cc748291d174797ae1673bfb807102caf9e85be", func := "loop.example/g01194/laws.FnExactIsOver", spec := "fnExactIsOver", unfollowed := true, recurses := true, apart := false, narrowed := true }
def FnExactIsOverUptoSaid : Prop := fnExactIsOverUptoRow.holds Try.pinned (OpenSpec.upto fnExactIsOverSpec)

/-- 'laws.FnExactMergersOf', WHERE WHAT IT READS IS OF BULK AT MOST 1048576: true; the input reads as it did. -/
def fnExactMergersOfUptoRow : OpenClaim := { program := "ytefknlgempcagaa", sum := "47cb070853cf1d34110fbf0b8cc748291d174797ae1673bfb807102caf9e85be", func := "loop.example/g01194/laws.FnExactMergersOf", spec := "fnExactMergersOf", unfollowed := true, recurses := true, apart := false, narrowed := true }
def FnExactMergersOfUptoSaid : Prop := fnExactMergersOfUptoRow.holds Try.pinned (OpenSpec.upto fnExactMergersOfSpec)

/-- 'laws.FnExactEmptyCells', WHERE WHAT IT READS IS OF BULK AT MOST 1048576: true; the input reads as it did. -/
def fnExactEmptyCellsUptoRow : OpenClaim := { program := "ytefknlgempcagaa", sum := "47cb070853cf1d34110fbf0b8cc748291d174797ae1673bfb807102caf9e85be", func := "loop.example/g01194/laws.FnExactEmptyCells", spec := "fnExactEmptyCells", apart := false, narrowed := true }
def FnExactEmptyCellsUptoSaid : Prop := fnExactEmptyCellsUptoRow.holds Try.pinned (OpenSpec.upto fnExactEmptyCellsSpec)

/-- 'laws.FnExactPutTile', WHERE WHAT IT READS IS OF BULK AT MOST 1048576: true; the input reads as it did. -/
def fnExactPutTileUptoRow : OpenClaim := { program := "ytefknlgempcagaa", sum := "47cb070853cf1d34110fbf0b8cc748291d174797ae1673bfb807102caf9e85be", func := "loop.example/g01194/laws.FnExactPutTile", spec := "fnExactPutTile", apart := false, narrowed := true }
def FnExactPutTileUptoSaid : Prop := fnExactPutTileUptoRow.holds Try.pinned (OpenSpec.upto fnExactPutTileSpec)

/-- 'laws.FnExactTakeTile', WHERE WHAT IT READS IS OF BULK AT MOST 1048576: true; the input reads as it did. -/
def fnExactTakeTileUptoRow : OpenClaim := { program := "ytefknlgempcagaa", sum := "47cb070853cf1d34110fbf0b8cc748291d174797ae1673bfb807102caf9e85be", func := "loop.example/g01194/laws.FnExactTakeTile", spec := "fnExactTakeTile", apart := false, narrowed := true }
def FnExactTakeTileUptoSaid : Prop := fnExactTakeTileUptoRow.holds Try.pinned (OpenSpec.upto fnExactTakeTileSpec)

/-- 'laws.FnExactSumOf', WHERE WHAT IT READS IS OF BULK AT MOST 1048576: true; the input reads as it did. -/
def fnExactSumOfUptoRow : OpenClaim := { program := "ytefknlgempcagaa", sum := "47cb070853cf1d34110fbf0b8cc748291d174797ae1673bfb807102caf9e85be", func := "loop.example/g01194/laws.FnExactSumOf", spec := "fnExactSumOf", apart := false, narrowed := true }
def FnExactSumOfUptoSaid : Prop := fnExactSumOfUptoRow.holds Try.pinned (OpenSpec.upto fnExactSumOfSpec)

/-- 'laws.FnExactHighestTile', WHERE WHAT IT READS IS OF BULK AT MOST 1048576: true; the input reads as it did. -/
def fnExactHighestTileUptoRow : OpenClaim := { program := "ytefknlgempcagaa", sum := "47cb070853cf1d34110fbf0b8cc748291d174797ae1673bfb807102caf9e85be", func := "loop.example/g01194/laws.FnExactHighestTile", spec := "fnExactHighestTile", apart := false, narrowed := true }
def FnExactHighestTileUptoSaid : Prop := fnExactHighestTileUptoRow.holds Try.pinned (OpenSpec.upto fnExactHighestTileSpec)

/-- 'laws.FnExactCountTiles', WHERE WHAT IT READS IS OF BULK AT MOST 1048576: true; the input reads as it did. -/
def fnExactCountTilesUptoRow : OpenClaim := { program := "ytefknlgempcagaa", sum := "47cb070853cf1d34110fbf0b8cc748291d174797ae1673bfb807102caf9e85be", func := "loop.example/g01194/laws.FnExactCountTiles", spec := "fnExactCountTiles", apart := false, narrowed := true }
def FnExactCountTilesUptoSaid : Prop := fnExactCountTilesUptoRow.holds Try.pinned (OpenSpec.upto fnExactCountTilesSpec)

/-- 'laws.FnExactLineOf', WHERE WHAT IT READS IS OF BULK AT MOST 1048576: true; the input reads as it did. -/
def fnExactLineOfUptoRow : OpenClaim := { program := "ytefknlgempcagaa", sum := "47cb070853cf1d34110fbf0b8cc748291d174797ae1673bfb807102caf9e85be", func := "loop.example/g01194/laws.FnExactLineOf", spec := "fnExactLineOf", unfollowed := true, recurses := true, apart := false, narrowed := true }
def FnExactLineOfUptoSaid : Prop := fnExactLineOfUptoRow.holds Try.pinned (OpenSpec.upto fnExactLineOfSpec)

/-- 'laws.FnExactEqualPairs', WHERE WHAT IT READS IS OF BULK AT MOST 1048576: true; the input reads as it did. -/
def fnExactEqualPairsUptoRow : OpenClaim := { program := "ytefknlgempcagaa", sum := "47cb070853cf1d34110fbf0b8cc748291d174797ae1673bfb807102caf9e85be", func := "loop.example/g01194/laws.FnExactEqualPairs", spec := "fnExactEqualPairs", apart := false, narrowed := true }
def FnExactEqualPairsUptoSaid : Prop := fnExactEqualPairsUptoRow.holds Try.pinned (OpenSpec.upto fnExactEqualPairsSpec)

/-- 'laws.FnExactLessBoard', WHERE WHAT IT READS IS OF BULK AT MOST 1048576: true; the input reads as it did. -/
def fnExactLessBoardUptoRow : OpenClaim := { program := "ytefknlgempcagaa", sum := "47cb070853cf1d34110fbf0b8cc748291d174797ae1673bfb807102caf9e85be", func := "loop.example/g01194/laws.FnExactLessBoard", spec := "fnExactLessBoard", apart := false, narrowed := true }
def FnExactLessBoardUptoSaid : Prop := fnExactLessBoardUptoRow.holds Try.pinned (OpenSpec.upto fnExactLessBoardSpec)

/-- 'laws.FnExactBoardText', WHERE WHAT IT READS IS OF BULK AT MOST 1048576: true; the input reads as it did. -/
def fnExactBoardTextUptoRow : OpenClaim := { program := "ytefknlgempcagaa", sum := "47cb070853cf1d34110fbf0b8cc748291d174797ae1673bfb807102caf9e85be", func := "loop.example/g01194/laws.FnExactBoardText", spec := "fnExactBoardText", apart := false, narrowed := true }
def FnExactBoardTextUptoSaid : Prop := fnExactBoardTextUptoRow.holds Try.pinned (OpenSpec.upto fnExactBoardTextSpec)

/-- 'laws.FnExactParseBoard', WHERE WHAT IT READS IS OF BULK AT MOST 1048576: true; the input reads as it did. -/
def fnExactParseBoardUptoRow : OpenClaim := { program := "ytefknlgempcagaa", sum := "47cb070853cf1d34110fbf0b8cc748291d174797ae1673bfb807102caf9e85be", func := "loop.example/g01194/laws.FnExactParseBoard", spec := "fnExactParseBoard", apart := false, narrowed := true }
def FnExactParseBoardUptoSaid : Prop := fnExactParseBoardUptoRow.holds Try.pinned (OpenSpec.upto fnExactParseBoardSpec)

end Rows
end Go.Proofs.Ytefknlgempcagaa
