/-
  No cell of these rows narrows 'for every input' (looked for: loops, veiled, ifaces, maps, wideKeys, modest, calm, conditions, laid).
  DERIVED. THE GIVEN ROWS OF THIS SEAT. 11 by the template 'for every input the law returns true; each argument reads behind the call as it read before'; 0 by the template 'total and deterministic' (their statements: YtlboglcpbbnbcaaTotals.lean).
  GIVEN WITH THE SEED: the statements are not yours to turn. If you find one false, say at which input.
  Laid BY PROGRAM, IN A SANDBOX (cutbox-rows.mjs): the forced cells as the released guide's own fill.sh prints them over the translation b65a81d618d9a4c0… (all of the seat's roots in one cut). By AI agents, Wed Nov 11 2026. No macro, syntax, notation, axiom, sorry.
-/
import Derived.Test.YtlboglcpbbnbcaaChecked
import GoSem.Claim
import GoSem.ClaimJoined
import GoSem.ClaimMapViews
import Derived.JoinedTies
import Derived.KernelRfl
namespace Go.Proofs.Ytlboglcpbbnbcaa
/- THE CELL 'sum', in the pinned program and in every row, IS THE sha256 OF THE DUMP (.gsa) THAT YtlboglcpbbnbcaaProg.lean LOADS. Nothing in Lean hashes anything: it is a label: what it is worth is what the hold of that sum in a sandbox is worth. -/
noncomputable def Try.pinned : Pinned := { name := "ytlboglcpbbnbcaa", sum := "b65a81d618d9a4c0a2512d6208c56bdb4ec3902e52061577f6b7ba469a15ede6", checked := Try.checked }
namespace Rows
def none {H : Type} : Left H := { results := [], args := [] }

/-- 'laws.FnExactPlacementsOf': WHATEVER THE INPUT: true; the input reads as it did. -/
def fnExactPlacementsOfSpec : ChangeSpec := { name := "fnExactPlacementsOf", fn := fun _ => fun
  | [d] => { results := [.lit (.bool true)], args := [d] }
  | _ => none }
def fnExactPlacementsOfRow : OpenClaim := { program := "ytlboglcpbbnbcaa", sum := "b65a81d618d9a4c0a2512d6208c56bdb4ec3902e52061577f6b7ba469a15ede6", func := "loop.example/g01194/laws.FnExactPlacementsOf", spec := "fnExactPlacementsOf", unfollowed := true, recurses := true, plainKeys := false, apart := false }
def FnExactPlacementsOfSaid : Prop := fnExactPlacementsOfRow.holds Try.pinned (OpenSpec.ofChange fnExactPlacementsOfSpec)

/-- ITS FALSE NEIGHBOUR: 'it returns false'. Refute it at one input. -/
def fnExactPlacementsOfWrong : ChangeSpec := { name := "fnExactPlacementsOf", fn := fun _ => fun
  | [d] => { results := [.lit (.bool false)], args := [d] }
  | _ => none }
def FnExactPlacementsOfWrongFalsely : Prop := fnExactPlacementsOfRow.holds Try.pinned (OpenSpec.ofChange fnExactPlacementsOfWrong)

/-- 'laws.FnExactPlaceTile': WHATEVER THE INPUT: true; the input reads as it did. -/
def fnExactPlaceTileSpec : ChangeSpec := { name := "fnExactPlaceTile", fn := fun _ => fun
  | [d1, d2] => { results := [.lit (.bool true)], args := [d1, d2] }
  | _ => none }
def fnExactPlaceTileRow : OpenClaim := { program := "ytlboglcpbbnbcaa", sum := "b65a81d618d9a4c0a2512d6208c56bdb4ec3902e52061577f6b7ba469a15ede6", func := "loop.example/g01194/laws.FnExactPlaceTile", spec := "fnExactPlaceTile", plainKeys := false, apart := false }
def FnExactPlaceTileSaid : Prop := fnExactPlaceTileRow.holds Try.pinned (OpenSpec.ofChange fnExactPlaceTileSpec)

/-- ITS FALSE NEIGHBOUR: 'it returns false'. Refute it at one input. -/
def fnExactPlaceTileWrong : ChangeSpec := { name := "fnExactPlaceTile", fn := fun _ => fun
  | [d1, d2] => { results := [.lit (.bool false)], args := [d1, d2] }
  | _ => none }
def FnExactPlaceTileWrongFalsely : Prop := fnExactPlaceTileRow.holds Try.pinned (OpenSpec.ofChange fnExactPlaceTileWrong)

/-- 'laws.FnExactDeadPlaces': WHATEVER THE INPUT: true; the input reads as it did. -/
def fnExactDeadPlacesSpec : ChangeSpec := { name := "fnExactDeadPlaces", fn := fun _ => fun
  | [d] => { results := [.lit (.bool true)], args := [d] }
  | _ => none }
def fnExactDeadPlacesRow : OpenClaim := { program := "ytlboglcpbbnbcaa", sum := "b65a81d618d9a4c0a2512d6208c56bdb4ec3902e52061577f6b7ba469a15ede6", func := "loop.example/g01194/laws.FnExactDeadPlaces", spec := "fnExactDeadPlaces", unfollowed := true, recurses := true, plainKeys := false, apart := false }
def FnExactDeadPlacesSaid : Prop := fnExactDeadPlacesRow.holds Try.pinned (OpenSpec.ofChange fnExactDeadPlacesSpec)

/-- ITS FALSE NEIGHBOUR: 'it returns false'. Refute it at one input. -/
def fnExactDeadPlacesWrong : ChangeSpec := { name := "fnExactDeadPlaces", fn := fun _ => fun
  | [d] => { results := [.lit (.bool false)], args := [d] }
  | _ => none }
def FnExactDeadPlacesWrongFalsely : Prop := fnExactDeadPlacesRow.holds Try.pinned (OpenSpec.ofChange fnExactDeadPlacesWrong)

/-- 'laws.FnExactWorstTile': WHATEVER THE INPUT: true; the input reads as it did. -/
def fnExactWorstTileSpec : ChangeSpec := { name := "fnExactWorstTile", fn := fun _ => fun
  | [d] => { results := [.lit (.bool true)], args := [d] }
  | _ => none }
def fnExactWorstTileRow : OpenClaim := { program := "ytlboglcpbbnbcaa", sum := "b65a81d618d9a4c0a2512d6208c56bdb4ec3902e52061577f6b7ba469a15ede6", func := "loop.example/g01194/laws.FnExactWorstTile", spec := "fnExactWorstTile", unfollowed := true, recurses := true, plainKeys := false, apart := false }
def FnExactWorstTileSaid : Prop := fnExactWorstTileRow.holds Try.pinned (OpenSpec.ofChange fnExactWorstTileSpec)

/-- ITS FALSE NEIGHBOUR: 'it returns false'. Refute it at one input. -/
def fnExactWorstTileWrong : ChangeSpec := { name := "fnExactWorstTile", fn := fun _ => fun
  | [d] => { results := [.lit (.bool false)], args := [d] }
  | _ => none }
def FnExactWorstTileWrongFalsely : Prop := fnExactWorstTileRow.holds Try.pinned (OpenSpec.ofChange fnExactWorstTileWrong)

/-- 'laws.FnExactLasts': WHATEVER THE INPUT: true; the input reads as it did. -/
def fnExactLastsSpec : ChangeSpec := { name := "fnExactLasts", fn := fun _ => fun
  | [d1, d2] => { results := [.lit (.bool true)], args := [d1, d2] }
  | _ => none }
def fnExactLastsRow : OpenClaim := { program := "ytlboglcpbbnbcaa", sum := "b65a81d618d9a4c0a2512d6208c56bdb4ec3902e52061577f6b7ba469a15ede6", func := "loop.example/g01194/laws.FnExactLasts", spec := "fnExactLasts", unfollowed := true, recurses := true, plainKeys := false, apart := false }
def FnExactLastsSaid : Prop := fnExactLastsRow.holds Try.pinned (OpenSpec.ofChange fnExactLastsSpec)

/-- ITS FALSE NEIGHBOUR: 'it returns false'. Refute it at one input. -/
def fnExactLastsWrong : ChangeSpec := { name := "fnExactLasts", fn := fun _ => fun
  | [d1, d2] => { results := [.lit (.bool false)], args := [d1, d2] }
  | _ => none }
def FnExactLastsWrongFalsely : Prop := fnExactLastsRow.holds Try.pinned (OpenSpec.ofChange fnExactLastsWrong)

/-- 'laws.FnExactLastsHow': WHATEVER THE INPUT: true; the input reads as it did. -/
def fnExactLastsHowSpec : ChangeSpec := { name := "fnExactLastsHow", fn := fun _ => fun
  | [d] => { results := [.lit (.bool true)], args := [d] }
  | _ => none }
def fnExactLastsHowRow : OpenClaim := { program := "ytlboglcpbbnbcaa", sum := "b65a81d618d9a4c0a2512d6208c56bdb4ec3902e52061577f6b7ba469a15ede6", func := "loop.example/g01194/laws.FnExactLastsHow", spec := "fnExactLastsHow", unfollowed := true, recurses := true, plainKeys := false, apart := false }
def FnExactLastsHowSaid : Prop := fnExactLastsHowRow.holds Try.pinned (OpenSpec.ofChange fnExactLastsHowSpec)

/-- ITS FALSE NEIGHBOUR: 'it returns false'. Refute it at one input. -/
def fnExactLastsHowWrong : ChangeSpec := { name := "fnExactLastsHow", fn := fun _ => fun
  | [d] => { results := [.lit (.bool false)], args := [d] }
  | _ => none }
def FnExactLastsHowWrongFalsely : Prop := fnExactLastsHowRow.holds Try.pinned (OpenSpec.ofChange fnExactLastsHowWrong)

/-- 'laws.FnExactSafeMoves': WHATEVER THE INPUT: true; the input reads as it did. -/
def fnExactSafeMovesSpec : ChangeSpec := { name := "fnExactSafeMoves", fn := fun _ => fun
  | [d1, d2] => { results := [.lit (.bool true)], args := [d1, d2] }
  | _ => none }
def fnExactSafeMovesRow : OpenClaim := { program := "ytlboglcpbbnbcaa", sum := "b65a81d618d9a4c0a2512d6208c56bdb4ec3902e52061577f6b7ba469a15ede6", func := "loop.example/g01194/laws.FnExactSafeMoves", spec := "fnExactSafeMoves", unfollowed := true, recurses := true, plainKeys := false, apart := false }
def FnExactSafeMovesSaid : Prop := fnExactSafeMovesRow.holds Try.pinned (OpenSpec.ofChange fnExactSafeMovesSpec)

/-- ITS FALSE NEIGHBOUR: 'it returns false'. Refute it at one input. -/
def fnExactSafeMovesWrong : ChangeSpec := { name := "fnExactSafeMoves", fn := fun _ => fun
  | [d1, d2] => { results := [.lit (.bool false)], args := [d1, d2] }
  | _ => none }
def FnExactSafeMovesWrongFalsely : Prop := fnExactSafeMovesRow.holds Try.pinned (OpenSpec.ofChange fnExactSafeMovesWrong)

/-- 'laws.FnExactRefuteMove': WHATEVER THE INPUT: true; the input reads as it did. -/
def fnExactRefuteMoveSpec : ChangeSpec := { name := "fnExactRefuteMove", fn := fun _ => fun
  | [d1, d2, d3] => { results := [.lit (.bool true)], args := [d1, d2, d3] }
  | _ => none }
def fnExactRefuteMoveRow : OpenClaim := { program := "ytlboglcpbbnbcaa", sum := "b65a81d618d9a4c0a2512d6208c56bdb4ec3902e52061577f6b7ba469a15ede6", func := "loop.example/g01194/laws.FnExactRefuteMove", spec := "fnExactRefuteMove", unfollowed := true, recurses := true, plainKeys := false, apart := false }
def FnExactRefuteMoveSaid : Prop := fnExactRefuteMoveRow.holds Try.pinned (OpenSpec.ofChange fnExactRefuteMoveSpec)

/-- ITS FALSE NEIGHBOUR: 'it returns false'. Refute it at one input. -/
def fnExactRefuteMoveWrong : ChangeSpec := { name := "fnExactRefuteMove", fn := fun _ => fun
  | [d1, d2, d3] => { results := [.lit (.bool false)], args := [d1, d2, d3] }
  | _ => none }
def FnExactRefuteMoveWrongFalsely : Prop := fnExactRefuteMoveRow.holds Try.pinned (OpenSpec.ofChange fnExactRefuteMoveWrong)

/-- 'laws.FnExactSureScore': WHATEVER THE INPUT: true; the input reads as it did. -/
def fnExactSureScoreSpec : ChangeSpec := { name := "fnExactSureScore", fn := fun _ => fun
  | [d1, d2] => { results := [.lit (.bool true)], args := [d1, d2] }
  | _ => none }
def fnExactSureScoreRow : OpenClaim := { program := "ytlboglcpbbnbcaa", sum := "b65a81d618d9a4c0a2512d6208c56bdb4ec3902e52061577f6b7ba469a15ede6", func := "loop.example/g01194/laws.FnExactSureScore", spec := "fnExactSureScore", unfollowed := true, recurses := true, plainKeys := false, apart := false }
def FnExactSureScoreSaid : Prop := fnExactSureScoreRow.holds Try.pinned (OpenSpec.ofChange fnExactSureScoreSpec)

/-- ITS FALSE NEIGHBOUR: 'it returns false'. Refute it at one input. -/
def fnExactSureScoreWrong : ChangeSpec := { name := "fnExactSureScore", fn := fun _ => fun
  | [d1, d2] => { results := [.lit (.bool false)], args := [d1, d2] }
  | _ => none }
def FnExactSureScoreWrongFalsely : Prop := fnExactSureScoreRow.holds Try.pinned (OpenSpec.ofChange fnExactSureScoreWrong)

/-- 'laws.FnExactBestSure': WHATEVER THE INPUT: true; the input reads as it did. -/
def fnExactBestSureSpec : ChangeSpec := { name := "fnExactBestSure", fn := fun _ => fun
  | [d1, d2] => { results := [.lit (.bool true)], args := [d1, d2] }
  | _ => none }
def fnExactBestSureRow : OpenClaim := { program := "ytlboglcpbbnbcaa", sum := "b65a81d618d9a4c0a2512d6208c56bdb4ec3902e52061577f6b7ba469a15ede6", func := "loop.example/g01194/laws.FnExactBestSure", spec := "fnExactBestSure", unfollowed := true, recurses := true, plainKeys := false, apart := false }
def FnExactBestSureSaid : Prop := fnExactBestSureRow.holds Try.pinned (OpenSpec.ofChange fnExactBestSureSpec)

/-- ITS FALSE NEIGHBOUR: 'it returns false'. Refute it at one input. -/
def fnExactBestSureWrong : ChangeSpec := { name := "fnExactBestSure", fn := fun _ => fun
  | [d1, d2] => { results := [.lit (.bool false)], args := [d1, d2] }
  | _ => none }
def FnExactBestSureWrongFalsely : Prop := fnExactBestSureRow.holds Try.pinned (OpenSpec.ofChange fnExactBestSureWrong)

/-- 'laws.FnExactWorstReply': WHATEVER THE INPUT: true; the input reads as it did. -/
def fnExactWorstReplySpec : ChangeSpec := { name := "fnExactWorstReply", fn := fun _ => fun
  | [d1, d2, d3] => { results := [.lit (.bool true)], args := [d1, d2, d3] }
  | _ => none }
def fnExactWorstReplyRow : OpenClaim := { program := "ytlboglcpbbnbcaa", sum := "b65a81d618d9a4c0a2512d6208c56bdb4ec3902e52061577f6b7ba469a15ede6", func := "loop.example/g01194/laws.FnExactWorstReply", spec := "fnExactWorstReply", unfollowed := true, recurses := true, plainKeys := false, apart := false }
def FnExactWorstReplySaid : Prop := fnExactWorstReplyRow.holds Try.pinned (OpenSpec.ofChange fnExactWorstReplySpec)

/-- ITS FALSE NEIGHBOUR: 'it returns false'. Refute it at one input. -/
def fnExactWorstReplyWrong : ChangeSpec := { name := "fnExactWorstReply", fn := fun _ => fun
  | [d1, d2, d3] => { results := [.lit (.bool false)], args := [d1, d2, d3] }
  | _ => none }
def FnExactWorstReplyWrongFalsely : Prop := fnExactWorstReplyRow.holds Try.pinned (OpenSpec.ofChange fnExactWorstReplyWrong)

/- THE SECOND FORM. 'bulk': how many values and letters a reading holds, each counted each time it is reached (what is shared counts as often as it is met; a slice's spare places count too). A statement '..UptoSaid' is the law's where the arguments, and the package variables that the reading takes, are together of bulk at most 1048576: NARROWER than '..Said'. Prove '..Said' where nothing that the law and all that it calls make is longer than what came in: it says more and counts as full. Else prove '..UptoSaid'. A law counts once. -/
mutual
def uptoBulk {H : Type} : DataW H → Nat
  | .lit (.string bytes) => bytes.length + 1
  | .lit _ => 1
  | .nil => 1
  | .ptr d => uptoBulk d + 1
  | .slice elems spare => uptoBulkAll elems + uptoBulkAll spare + 1
  | .agg parts => uptoBulkAll parts + 1
  | .iface _ d => uptoBulk d + 1
  | .map entries => uptoBulkEntries entries + 1
  | .held _ => 1
def uptoBulkAll {H : Type} : List (DataW H) → Nat
  | [] => 0
  | d :: r => uptoBulk d + uptoBulkAll r
def uptoBulkEntries {H : Type} : List (Lit × DataW H) → Nat
  | [] => 0
  | x :: r => uptoBulkEntry x + uptoBulkEntries r
def uptoBulkEntry {H : Type} : Lit × DataW H → Nat
  | (.string bytes, d) => bytes.length + uptoBulk d + 1
  | (_, d) => uptoBulk d + 1
 end
def uptoSmall : (H : Type) → List (DataW H) → Bool := fun _ ds => decide (uptoBulkAll ds ≤ 1048576)
def OpenSpec.upto (s : _root_.Go.ChangeSpec) : _root_.Go.OpenSpec := { _root_.Go.OpenSpec.ofChange s with cond := some uptoSmall }

/-- 'laws.FnExactPlacementsOf', WHERE WHAT IT READS IS OF BULK AT MOST 1048576: true; the input reads as it did. -/
def fnExactPlacementsOfUptoRow : OpenClaim := { program := "ytlboglcpbbnbcaa", sum := "b65a81d618d9a4c0a2512d6208c56bdb4ec3902e52061577f6b7ba469a15ede6", func := "loop.example/g01194/laws.FnExactPlacementsOf", spec := "fnExactPlacementsOf", unfollowed := true, recurses := true, plainKeys := false, apart := false, narrowed := true }
def FnExactPlacementsOfUptoSaid : Prop := fnExactPlacementsOfUptoRow.holds Try.pinned (OpenSpec.upto fnExactPlacementsOfSpec)

/-- 'laws.FnExactPlaceTile', WHERE WHAT IT READS IS OF BULK AT MOST 1048576: true; the input reads as it did. -/
def fnExactPlaceTileUptoRow : OpenClaim := { program := "ytlboglcpbbnbcaa", sum := "b65a81d618d9a4c0a2512d6208c56bdb4ec3902e52061577f6b7ba469a15ede6", func := "loop.example/g01194/laws.FnExactPlaceTile", spec := "fnExactPlaceTile", plainKeys := false, apart := false, narrowed := true }
def FnExactPlaceTileUptoSaid : Prop := fnExactPlaceTileUptoRow.holds Try.pinned (OpenSpec.upto fnExactPlaceTileSpec)

/-- 'laws.FnExactDeadPlaces', WHERE WHAT IT READS IS OF BULK AT MOST 1048576: true; the input reads as it did. -/
def fnExactDeadPlacesUptoRow : OpenClaim := { program := "ytlboglcpbbnbcaa", sum := "b65a81d618d9a4c0a2512d6208c56bdb4ec3902e52061577f6b7ba469a15ede6", func := "loop.example/g01194/laws.FnExactDeadPlaces", spec := "fnExactDeadPlaces", unfollowed := true, recurses := true, plainKeys := false, apart := false, narrowed := true }
def FnExactDeadPlacesUptoSaid : Prop := fnExactDeadPlacesUptoRow.holds Try.pinned (OpenSpec.upto fnExactDeadPlacesSpec)

/-- 'laws.FnExactWorstTile', WHERE WHAT IT READS IS OF BULK AT MOST 1048576: true; the input reads as it did. -/
def fnExactWorstTileUptoRow : OpenClaim := { program := "ytlboglcpbbnbcaa", sum := "b65a81d618d9a4c0a2512d6208c56bdb4ec3902e52061577f6b7ba469a15ede6", func := "loop.example/g01194/laws.FnExactWorstTile", spec := "fnExactWorstTile", unfollowed := true, recurses := true, plainKeys := false, apart := false, narrowed := true }
def FnExactWorstTileUptoSaid : Prop := fnExactWorstTileUptoRow.holds Try.pinned (OpenSpec.upto fnExactWorstTileSpec)

/-- 'laws.FnExactLasts', WHERE WHAT IT READS IS OF BULK AT MOST 1048576: true; the input reads as it did. -/
def fnExactLastsUptoRow : OpenClaim := { program := "ytlboglcpbbnbcaa", sum := "b65a81d618d9a4c0a2512d6208c56bdb4ec3902e52061577f6b7ba469a15ede6", func := "loop.example/g01194/laws.FnExactLasts", spec := "fnExactLasts", unfollowed := true, recurses := true, plainKeys := false, apart := false, narrowed := true }
def FnExactLastsUptoSaid : Prop := fnExactLastsUptoRow.holds Try.pinned (OpenSpec.upto fnExactLastsSpec)

/-- 'laws.FnExactLastsHow', WHERE WHAT IT READS IS OF BULK AT MOST 1048576: true; the input reads as it did. -/
def fnExactLastsHowUptoRow : OpenClaim := { program := "ytlboglcpbbnbcaa", sum := "b65a81d618d9a4c0a2512d6208c56bdb4ec3902e52061577f6b7ba469a15ede6", func := "loop.example/g01194/laws.FnExactLastsHow", spec := "fnExactLastsHow", unfollowed := true, recurses := true, plainKeys := false, apart := false, narrowed := true }
def FnExactLastsHowUptoSaid : Prop := fnExactLastsHowUptoRow.holds Try.pinned (OpenSpec.upto fnExactLastsHowSpec)

/-- 'laws.FnExactSafeMoves', WHERE WHAT IT READS IS OF BULK AT MOST 1048576: true; the input reads as it did. -/
def fnExactSafeMovesUptoRow : OpenClaim := { program := "ytlboglcpbbnbcaa", sum := "b65a81d618d9a4c0a2512d6208c56bdb4ec3902e52061577f6b7ba469a15ede6", func := "loop.example/g01194/laws.FnExactSafeMoves", spec := "fnExactSafeMoves", unfollowed := true, recurses := true, plainKeys := false, apart := false, narrowed := true }
def FnExactSafeMovesUptoSaid : Prop := fnExactSafeMovesUptoRow.holds Try.pinned (OpenSpec.upto fnExactSafeMovesSpec)

/-- 'laws.FnExactRefuteMove', WHERE WHAT IT READS IS OF BULK AT MOST 1048576: true; the input reads as it did. -/
def fnExactRefuteMoveUptoRow : OpenClaim := { program := "ytlboglcpbbnbcaa", sum := "b65a81d618d9a4c0a2512d6208c56bdb4ec3902e52061577f6b7ba469a15ede6", func := "loop.example/g01194/laws.FnExactRefuteMove", spec := "fnExactRefuteMove", unfollowed := true, recurses := true, plainKeys := false, apart := false, narrowed := true }
def FnExactRefuteMoveUptoSaid : Prop := fnExactRefuteMoveUptoRow.holds Try.pinned (OpenSpec.upto fnExactRefuteMoveSpec)

/-- 'laws.FnExactSureScore', WHERE WHAT IT READS IS OF BULK AT MOST 1048576: true; the input reads as it did. -/
def fnExactSureScoreUptoRow : OpenClaim := { program := "ytlboglcpbbnbcaa", sum := "b65a81d618d9a4c0a2512d6208c56bdb4ec3902e52061577f6b7ba469a15ede6", func := "loop.example/g01194/laws.FnExactSureScore", spec := "fnExactSureScore", unfollowed := true, recurses := true, plainKeys := false, apart := false, narrowed := true }
def FnExactSureScoreUptoSaid : Prop := fnExactSureScoreUptoRow.holds Try.pinned (OpenSpec.upto fnExactSureScoreSpec)

/-- 'laws.FnExactBestSure', WHERE WHAT IT READS IS OF BULK AT MOST 1048576: true; the input reads as it did. -/
def fnExactBestSureUptoRow : OpenClaim := { program := "ytlboglcpbbnbcaa", sum := "b65a81d618d9a4c0a2512d6208c56bdb4ec3902e52061577f6b7ba469a15ede6", func := "loop.example/g01194/laws.FnExactBestSure", spec := "fnExactBestSure", unfollowed := true, recurses := true, plainKeys := false, apart := false, narrowed := true }
def FnExactBestSureUptoSaid : Prop := fnExactBestSureUptoRow.holds Try.pinned (OpenSpec.upto fnExactBestSureSpec)

/-- 'laws.FnExactWorstReply', WHERE WHAT IT READS IS OF BULK AT MOST 1048576: true; the input reads as it did. -/
def fnExactWorstReplyUptoRow : OpenClaim := { program := "ytlboglcpbbnbcaa", sum := "b65a81d618d9a4c0a2512d6208c56bdb4ec3902e52061577f6b7ba469a15ede6", func := "loop.example/g01194/laws.FnExactWorstReply", spec := "fnExactWorstReply", unfollowed := true, recurses := true, plainKeys := false, apart := false, narrowed := true }
def FnExactWorstReplyUptoSaid : Prop := fnExactWorstReplyUptoRow.holds Try.pinned (OpenSpec.upto fnExactWorstReplySpec)

end Rows
end Go.Proofs.Ytlboglcpbbnbcaa
