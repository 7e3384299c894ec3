/-
  No cell of these rows narrows 'for every input' (looked for: loops, veiled, ifaces, maps, wideKeys, modest, calm, conditions, laid).
  DERIVED. THE GIVEN ROWS OF THIS SEAT. 20 by the template 'for every input the law returns true; each argument reads behind the call as it read before'; 0 by the template 'total and deterministic' (their statements: YtffonncbmddjgaaTotals.lean).
  GIVEN WITH THE SEED: the statements are not yours to turn. If you find one false, say at which input.
  Laid BY PROGRAM, IN A SANDBOX (cutbox-rows.mjs): the forced cells as the released guide's own fill.sh prints them over the translation 7a1189e76919f6da… (all of the seat's roots in one cut). By AI agents, Wed Nov 11 2026. No macro, syntax, notation, axiom, sorry.
-/
import Derived.Test.YtffonncbmddjgaaChecked
import GoSem.Claim
import GoSem.ClaimJoined
import GoSem.ClaimMapViews
import Derived.JoinedTies
import Derived.KernelRfl
namespace Go.Proofs.Ytffonncbmddjgaa
/- THE CELL 'sum', in the pinned program and in every row, IS THE sha256 OF THE DUMP (.gsa) THAT YtffonncbmddjgaaProg.lean LOADS. Nothing in Lean hashes anything: it is a label: what it is worth is what the hold of that sum in a sandbox is worth. -/
noncomputable def Try.pinned : Pinned := { name := "ytffonncbmddjgaa", sum := "7a1189e76919f6da9c22211fc06d540012d987f352b6c626ff0b94661930a419", checked := Try.checked }
namespace Rows
def none {H : Type} : Left H := { results := [], args := [] }

/-- 'laws.FnFormGroup': WHATEVER THE INPUT: true; the input reads as it did. -/
def fnFormGroupSpec : ChangeSpec := { name := "fnFormGroup", fn := fun _ => fun
  | [d] => { results := [.lit (.bool true)], args := [d] }
  | _ => none }
def fnFormGroupRow : OpenClaim := { program := "ytffonncbmddjgaa", sum := "7a1189e76919f6da9c22211fc06d540012d987f352b6c626ff0b94661930a419", func := "loop.example/g01194/laws.FnFormGroup", spec := "fnFormGroup", unfollowed := true, recurses := true, plainKeys := false, apart := false }
def FnFormGroupSaid : Prop := fnFormGroupRow.holds Try.pinned (OpenSpec.ofChange fnFormGroupSpec)

/-- ITS FALSE NEIGHBOUR: 'it returns false'. Refute it at one input. -/
def fnFormGroupWrong : ChangeSpec := { name := "fnFormGroup", fn := fun _ => fun
  | [d] => { results := [.lit (.bool false)], args := [d] }
  | _ => none }
def FnFormGroupWrongFalsely : Prop := fnFormGroupRow.holds Try.pinned (OpenSpec.ofChange fnFormGroupWrong)

/-- 'laws.FnFirstForms': WHATEVER THE INPUT: true; the input reads as it did. -/
def fnFirstFormsSpec : ChangeSpec := { name := "fnFirstForms", fn := fun _ => fun
  | [d] => { results := [.lit (.bool true)], args := [d] }
  | _ => none }
def fnFirstFormsRow : OpenClaim := { program := "ytffonncbmddjgaa", sum := "7a1189e76919f6da9c22211fc06d540012d987f352b6c626ff0b94661930a419", func := "loop.example/g01194/laws.FnFirstForms", spec := "fnFirstForms", unfollowed := true, recurses := true, plainKeys := false, apart := false }
def FnFirstFormsSaid : Prop := fnFirstFormsRow.holds Try.pinned (OpenSpec.ofChange fnFirstFormsSpec)

/-- ITS FALSE NEIGHBOUR: 'it returns false'. Refute it at one input. -/
def fnFirstFormsWrong : ChangeSpec := { name := "fnFirstForms", fn := fun _ => fun
  | [d] => { results := [.lit (.bool false)], args := [d] }
  | _ => none }
def FnFirstFormsWrongFalsely : Prop := fnFirstFormsRow.holds Try.pinned (OpenSpec.ofChange fnFirstFormsWrong)

/-- 'laws.FnSlidesKeep': WHATEVER THE INPUT: true; the input reads as it did. -/
def fnSlidesKeepSpec : ChangeSpec := { name := "fnSlidesKeep", fn := fun _ => fun
  | [d] => { results := [.lit (.bool true)], args := [d] }
  | _ => none }
def fnSlidesKeepRow : OpenClaim := { program := "ytffonncbmddjgaa", sum := "7a1189e76919f6da9c22211fc06d540012d987f352b6c626ff0b94661930a419", func := "loop.example/g01194/laws.FnSlidesKeep", spec := "fnSlidesKeep", unfollowed := true, recurses := true, plainKeys := false, apart := false }
def FnSlidesKeepSaid : Prop := fnSlidesKeepRow.holds Try.pinned (OpenSpec.ofChange fnSlidesKeepSpec)

/-- ITS FALSE NEIGHBOUR: 'it returns false'. Refute it at one input. -/
def fnSlidesKeepWrong : ChangeSpec := { name := "fnSlidesKeep", fn := fun _ => fun
  | [d] => { results := [.lit (.bool false)], args := [d] }
  | _ => none }
def FnSlidesKeepWrongFalsely : Prop := fnSlidesKeepRow.holds Try.pinned (OpenSpec.ofChange fnSlidesKeepWrong)

/-- 'laws.FnBoards': WHATEVER THE INPUT: true; the input reads as it did. -/
def fnBoardsSpec : ChangeSpec := { name := "fnBoards", fn := fun _ => fun
  | [d] => { results := [.lit (.bool true)], args := [d] }
  | _ => none }
def fnBoardsRow : OpenClaim := { program := "ytffonncbmddjgaa", sum := "7a1189e76919f6da9c22211fc06d540012d987f352b6c626ff0b94661930a419", func := "loop.example/g01194/laws.FnBoards", spec := "fnBoards", unfollowed := true, recurses := true, plainKeys := false, apart := false }
def FnBoardsSaid : Prop := fnBoardsRow.holds Try.pinned (OpenSpec.ofChange fnBoardsSpec)

/-- ITS FALSE NEIGHBOUR: 'it returns false'. Refute it at one input. -/
def fnBoardsWrong : ChangeSpec := { name := "fnBoards", fn := fun _ => fun
  | [d] => { results := [.lit (.bool false)], args := [d] }
  | _ => none }
def FnBoardsWrongFalsely : Prop := fnBoardsRow.holds Try.pinned (OpenSpec.ofChange fnBoardsWrong)

/-- 'laws.FnExactPutTile': WHATEVER THE INPUT: true; the input reads as it did. -/
def fnExactPutTileSpec : ChangeSpec := { name := "fnExactPutTile", fn := fun _ => fun
  | [d1, d2, d3] => { results := [.lit (.bool true)], args := [d1, d2, d3] }
  | _ => none }
def fnExactPutTileRow : OpenClaim := { program := "ytffonncbmddjgaa", sum := "7a1189e76919f6da9c22211fc06d540012d987f352b6c626ff0b94661930a419", func := "loop.example/g01194/laws.FnExactPutTile", spec := "fnExactPutTile", plainKeys := false, apart := false }
def FnExactPutTileSaid : Prop := fnExactPutTileRow.holds Try.pinned (OpenSpec.ofChange fnExactPutTileSpec)

/-- ITS FALSE NEIGHBOUR: 'it returns false'. Refute it at one input. -/
def fnExactPutTileWrong : ChangeSpec := { name := "fnExactPutTile", fn := fun _ => fun
  | [d1, d2, d3] => { results := [.lit (.bool false)], args := [d1, d2, d3] }
  | _ => none }
def FnExactPutTileWrongFalsely : Prop := fnExactPutTileRow.holds Try.pinned (OpenSpec.ofChange fnExactPutTileWrong)

/-- 'laws.FnExactTakeTile': WHATEVER THE INPUT: true; the input reads as it did. -/
def fnExactTakeTileSpec : ChangeSpec := { name := "fnExactTakeTile", fn := fun _ => fun
  | [d1, d2] => { results := [.lit (.bool true)], args := [d1, d2] }
  | _ => none }
def fnExactTakeTileRow : OpenClaim := { program := "ytffonncbmddjgaa", sum := "7a1189e76919f6da9c22211fc06d540012d987f352b6c626ff0b94661930a419", func := "loop.example/g01194/laws.FnExactTakeTile", spec := "fnExactTakeTile", plainKeys := false, apart := false }
def FnExactTakeTileSaid : Prop := fnExactTakeTileRow.holds Try.pinned (OpenSpec.ofChange fnExactTakeTileSpec)

/-- ITS FALSE NEIGHBOUR: 'it returns false'. Refute it at one input. -/
def fnExactTakeTileWrong : ChangeSpec := { name := "fnExactTakeTile", fn := fun _ => fun
  | [d1, d2] => { results := [.lit (.bool false)], args := [d1, d2] }
  | _ => none }
def FnExactTakeTileWrongFalsely : Prop := fnExactTakeTileRow.holds Try.pinned (OpenSpec.ofChange fnExactTakeTileWrong)

/-- 'laws.FnExactBoardText': WHATEVER THE INPUT: true; the input reads as it did. -/
def fnExactBoardTextSpec : ChangeSpec := { name := "fnExactBoardText", fn := fun _ => fun
  | [d] => { results := [.lit (.bool true)], args := [d] }
  | _ => none }
def fnExactBoardTextRow : OpenClaim := { program := "ytffonncbmddjgaa", sum := "7a1189e76919f6da9c22211fc06d540012d987f352b6c626ff0b94661930a419", func := "loop.example/g01194/laws.FnExactBoardText", spec := "fnExactBoardText", plainKeys := false, apart := false }
def FnExactBoardTextSaid : Prop := fnExactBoardTextRow.holds Try.pinned (OpenSpec.ofChange fnExactBoardTextSpec)

/-- ITS FALSE NEIGHBOUR: 'it returns false'. Refute it at one input. -/
def fnExactBoardTextWrong : ChangeSpec := { name := "fnExactBoardText", fn := fun _ => fun
  | [d] => { results := [.lit (.bool false)], args := [d] }
  | _ => none }
def FnExactBoardTextWrongFalsely : Prop := fnExactBoardTextRow.holds Try.pinned (OpenSpec.ofChange fnExactBoardTextWrong)

/-- 'laws.FnExactParseBoard': WHATEVER THE INPUT: true; the input reads as it did. -/
def fnExactParseBoardSpec : ChangeSpec := { name := "fnExactParseBoard", fn := fun _ => fun
  | [d] => { results := [.lit (.bool true)], args := [d] }
  | _ => none }
def fnExactParseBoardRow : OpenClaim := { program := "ytffonncbmddjgaa", sum := "7a1189e76919f6da9c22211fc06d540012d987f352b6c626ff0b94661930a419", func := "loop.example/g01194/laws.FnExactParseBoard", spec := "fnExactParseBoard", plainKeys := false, apart := false }
def FnExactParseBoardSaid : Prop := fnExactParseBoardRow.holds Try.pinned (OpenSpec.ofChange fnExactParseBoardSpec)

/-- ITS FALSE NEIGHBOUR: 'it returns false'. Refute it at one input. -/
def fnExactParseBoardWrong : ChangeSpec := { name := "fnExactParseBoard", fn := fun _ => fun
  | [d] => { results := [.lit (.bool false)], args := [d] }
  | _ => none }
def FnExactParseBoardWrongFalsely : Prop := fnExactParseBoardRow.holds Try.pinned (OpenSpec.ofChange fnExactParseBoardWrong)

/-- 'laws.FnExactFormBoard': WHATEVER THE INPUT: true; the input reads as it did. -/
def fnExactFormBoardSpec : ChangeSpec := { name := "fnExactFormBoard", fn := fun _ => fun
  | [d1, d2] => { results := [.lit (.bool true)], args := [d1, d2] }
  | _ => none }
def fnExactFormBoardRow : OpenClaim := { program := "ytffonncbmddjgaa", sum := "7a1189e76919f6da9c22211fc06d540012d987f352b6c626ff0b94661930a419", func := "loop.example/g01194/laws.FnExactFormBoard", spec := "fnExactFormBoard", unfollowed := true, recurses := true, plainKeys := false, apart := false }
def FnExactFormBoardSaid : Prop := fnExactFormBoardRow.holds Try.pinned (OpenSpec.ofChange fnExactFormBoardSpec)

/-- ITS FALSE NEIGHBOUR: 'it returns false'. Refute it at one input. -/
def fnExactFormBoardWrong : ChangeSpec := { name := "fnExactFormBoard", fn := fun _ => fun
  | [d1, d2] => { results := [.lit (.bool false)], args := [d1, d2] }
  | _ => none }
def FnExactFormBoardWrongFalsely : Prop := fnExactFormBoardRow.holds Try.pinned (OpenSpec.ofChange fnExactFormBoardWrong)

/-- 'laws.FnExactFormBehind': WHATEVER THE INPUT: true; the input reads as it did. -/
def fnExactFormBehindSpec : ChangeSpec := { name := "fnExactFormBehind", fn := fun _ => fun
  | [d1, d2] => { results := [.lit (.bool true)], args := [d1, d2] }
  | _ => none }
def fnExactFormBehindRow : OpenClaim := { program := "ytffonncbmddjgaa", sum := "7a1189e76919f6da9c22211fc06d540012d987f352b6c626ff0b94661930a419", func := "loop.example/g01194/laws.FnExactFormBehind", spec := "fnExactFormBehind", plainKeys := false, apart := false }
def FnExactFormBehindSaid : Prop := fnExactFormBehindRow.holds Try.pinned (OpenSpec.ofChange fnExactFormBehindSpec)

/-- ITS FALSE NEIGHBOUR: 'it returns false'. Refute it at one input. -/
def fnExactFormBehindWrong : ChangeSpec := { name := "fnExactFormBehind", fn := fun _ => fun
  | [d1, d2] => { results := [.lit (.bool false)], args := [d1, d2] }
  | _ => none }
def FnExactFormBehindWrongFalsely : Prop := fnExactFormBehindRow.holds Try.pinned (OpenSpec.ofChange fnExactFormBehindWrong)

/-- 'laws.FnExactFormBack': WHATEVER THE INPUT: true; the input reads as it did. -/
def fnExactFormBackSpec : ChangeSpec := { name := "fnExactFormBack", fn := fun _ => fun
  | [d] => { results := [.lit (.bool true)], args := [d] }
  | _ => none }
def fnExactFormBackRow : OpenClaim := { program := "ytffonncbmddjgaa", sum := "7a1189e76919f6da9c22211fc06d540012d987f352b6c626ff0b94661930a419", func := "loop.example/g01194/laws.FnExactFormBack", spec := "fnExactFormBack", plainKeys := false, apart := false }
def FnExactFormBackSaid : Prop := fnExactFormBackRow.holds Try.pinned (OpenSpec.ofChange fnExactFormBackSpec)

/-- ITS FALSE NEIGHBOUR: 'it returns false'. Refute it at one input. -/
def fnExactFormBackWrong : ChangeSpec := { name := "fnExactFormBack", fn := fun _ => fun
  | [d] => { results := [.lit (.bool false)], args := [d] }
  | _ => none }
def FnExactFormBackWrongFalsely : Prop := fnExactFormBackRow.holds Try.pinned (OpenSpec.ofChange fnExactFormBackWrong)

/-- 'laws.FnExactFormSide': WHATEVER THE INPUT: true; the input reads as it did. -/
def fnExactFormSideSpec : ChangeSpec := { name := "fnExactFormSide", fn := fun _ => fun
  | [d1, d2] => { results := [.lit (.bool true)], args := [d1, d2] }
  | _ => none }
def fnExactFormSideRow : OpenClaim := { program := "ytffonncbmddjgaa", sum := "7a1189e76919f6da9c22211fc06d540012d987f352b6c626ff0b94661930a419", func := "loop.example/g01194/laws.FnExactFormSide", spec := "fnExactFormSide", plainKeys := false, apart := false }
def FnExactFormSideSaid : Prop := fnExactFormSideRow.holds Try.pinned (OpenSpec.ofChange fnExactFormSideSpec)

/-- ITS FALSE NEIGHBOUR: 'it returns false'. Refute it at one input. -/
def fnExactFormSideWrong : ChangeSpec := { name := "fnExactFormSide", fn := fun _ => fun
  | [d1, d2] => { results := [.lit (.bool false)], args := [d1, d2] }
  | _ => none }
def FnExactFormSideWrongFalsely : Prop := fnExactFormSideRow.holds Try.pinned (OpenSpec.ofChange fnExactFormSideWrong)

/-- 'laws.FnExactFirstForm': WHATEVER THE INPUT: true; the input reads as it did. -/
def fnExactFirstFormSpec : ChangeSpec := { name := "fnExactFirstForm", fn := fun _ => fun
  | [d] => { results := [.lit (.bool true)], args := [d] }
  | _ => none }
def fnExactFirstFormRow : OpenClaim := { program := "ytffonncbmddjgaa", sum := "7a1189e76919f6da9c22211fc06d540012d987f352b6c626ff0b94661930a419", func := "loop.example/g01194/laws.FnExactFirstForm", spec := "fnExactFirstForm", unfollowed := true, recurses := true, plainKeys := false, apart := false }
def FnExactFirstFormSaid : Prop := fnExactFirstFormRow.holds Try.pinned (OpenSpec.ofChange fnExactFirstFormSpec)

/-- ITS FALSE NEIGHBOUR: 'it returns false'. Refute it at one input. -/
def fnExactFirstFormWrong : ChangeSpec := { name := "fnExactFirstForm", fn := fun _ => fun
  | [d] => { results := [.lit (.bool false)], args := [d] }
  | _ => none }
def FnExactFirstFormWrongFalsely : Prop := fnExactFirstFormRow.holds Try.pinned (OpenSpec.ofChange fnExactFirstFormWrong)

/-- 'laws.FnExactAreSameForm': WHATEVER THE INPUT: true; the input reads as it did. -/
def fnExactAreSameFormSpec : ChangeSpec := { name := "fnExactAreSameForm", fn := fun _ => fun
  | [d1, d2] => { results := [.lit (.bool true)], args := [d1, d2] }
  | _ => none }
def fnExactAreSameFormRow : OpenClaim := { program := "ytffonncbmddjgaa", sum := "7a1189e76919f6da9c22211fc06d540012d987f352b6c626ff0b94661930a419", func := "loop.example/g01194/laws.FnExactAreSameForm", spec := "fnExactAreSameForm", unfollowed := true, recurses := true, plainKeys := false, apart := false }
def FnExactAreSameFormSaid : Prop := fnExactAreSameFormRow.holds Try.pinned (OpenSpec.ofChange fnExactAreSameFormSpec)

/-- ITS FALSE NEIGHBOUR: 'it returns false'. Refute it at one input. -/
def fnExactAreSameFormWrong : ChangeSpec := { name := "fnExactAreSameForm", fn := fun _ => fun
  | [d1, d2] => { results := [.lit (.bool false)], args := [d1, d2] }
  | _ => none }
def FnExactAreSameFormWrongFalsely : Prop := fnExactAreSameFormRow.holds Try.pinned (OpenSpec.ofChange fnExactAreSameFormWrong)

/-- 'laws.FnExactSymmetriesOf': WHATEVER THE INPUT: true; the input reads as it did. -/
def fnExactSymmetriesOfSpec : ChangeSpec := { name := "fnExactSymmetriesOf", fn := fun _ => fun
  | [d] => { results := [.lit (.bool true)], args := [d] }
  | _ => none }
def fnExactSymmetriesOfRow : OpenClaim := { program := "ytffonncbmddjgaa", sum := "7a1189e76919f6da9c22211fc06d540012d987f352b6c626ff0b94661930a419", func := "loop.example/g01194/laws.FnExactSymmetriesOf", spec := "fnExactSymmetriesOf", unfollowed := true, recurses := true, plainKeys := false, apart := false }
def FnExactSymmetriesOfSaid : Prop := fnExactSymmetriesOfRow.holds Try.pinned (OpenSpec.ofChange fnExactSymmetriesOfSpec)

/-- ITS FALSE NEIGHBOUR: 'it returns false'. Refute it at one input. -/
def fnExactSymmetriesOfWrong : ChangeSpec := { name := "fnExactSymmetriesOf", fn := fun _ => fun
  | [d] => { results := [.lit (.bool false)], args := [d] }
  | _ => none }
def FnExactSymmetriesOfWrongFalsely : Prop := fnExactSymmetriesOfRow.holds Try.pinned (OpenSpec.ofChange fnExactSymmetriesOfWrong)

/-- 'laws.FnExactCountForms': WHATEVER THE INPUT: true; the input reads as it did. -/
def fnExactCountFormsSpec : ChangeSpec := { name := "fnExactCountForms", fn := fun _ => fun
  | [d] => { results := [.lit (.bool true)], args := [d] }
  | _ => none }
def fnExactCountFormsRow : OpenClaim := { program := "ytffonncbmddjgaa", sum := "7a1189e76919f6da9c22211fc06d540012d987f352b6c626ff0b94661930a419", func := "loop.example/g01194/laws.FnExactCountForms", spec := "fnExactCountForms", unfollowed := true, recurses := true, plainKeys := false, apart := false }
def FnExactCountFormsSaid : Prop := fnExactCountFormsRow.holds Try.pinned (OpenSpec.ofChange fnExactCountFormsSpec)

/-- ITS FALSE NEIGHBOUR: 'it returns false'. Refute it at one input. -/
def fnExactCountFormsWrong : ChangeSpec := { name := "fnExactCountForms", fn := fun _ => fun
  | [d] => { results := [.lit (.bool false)], args := [d] }
  | _ => none }
def FnExactCountFormsWrongFalsely : Prop := fnExactCountFormsRow.holds Try.pinned (OpenSpec.ofChange fnExactCountFormsWrong)

/-- 'laws.FnExactFormsOf': WHATEVER THE INPUT: true; the input reads as it did. -/
def fnExactFormsOfSpec : ChangeSpec := { name := "fnExactFormsOf", fn := fun _ => fun
  | [d] => { results := [.lit (.bool true)], args := [d] }
  | _ => none }
def fnExactFormsOfRow : OpenClaim := { program := "ytffonncbmddjgaa", sum := "7a1189e76919f6da9c22211fc06d540012d987f352b6c626ff0b94661930a419", func := "loop.example/g01194/laws.FnExactFormsOf", spec := "fnExactFormsOf", unfollowed := true, recurses := true, plainKeys := false, apart := false }
def FnExactFormsOfSaid : Prop := fnExactFormsOfRow.holds Try.pinned (OpenSpec.ofChange fnExactFormsOfSpec)

/-- ITS FALSE NEIGHBOUR: 'it returns false'. Refute it at one input. -/
def fnExactFormsOfWrong : ChangeSpec := { name := "fnExactFormsOf", fn := fun _ => fun
  | [d] => { results := [.lit (.bool false)], args := [d] }
  | _ => none }
def FnExactFormsOfWrongFalsely : Prop := fnExactFormsOfRow.holds Try.pinned (OpenSpec.ofChange fnExactFormsOfWrong)

/-- 'laws.FnExactDoCommute': WHATEVER THE INPUT: true; the input reads as it did. -/
def fnExactDoCommuteSpec : ChangeSpec := { name := "fnExactDoCommute", fn := fun _ => fun
  | [d1, d2, d3] => { results := [.lit (.bool true)], args := [d1, d2, d3] }
  | _ => none }
def fnExactDoCommuteRow : OpenClaim := { program := "ytffonncbmddjgaa", sum := "7a1189e76919f6da9c22211fc06d540012d987f352b6c626ff0b94661930a419", func := "loop.example/g01194/laws.FnExactDoCommute", spec := "fnExactDoCommute", unfollowed := true, recurses := true, plainKeys := false, apart := false }
def FnExactDoCommuteSaid : Prop := fnExactDoCommuteRow.holds Try.pinned (OpenSpec.ofChange fnExactDoCommuteSpec)

/-- ITS FALSE NEIGHBOUR: 'it returns false'. Refute it at one input. -/
def fnExactDoCommuteWrong : ChangeSpec := { name := "fnExactDoCommute", fn := fun _ => fun
  | [d1, d2, d3] => { results := [.lit (.bool false)], args := [d1, d2, d3] }
  | _ => none }
def FnExactDoCommuteWrongFalsely : Prop := fnExactDoCommuteRow.holds Try.pinned (OpenSpec.ofChange fnExactDoCommuteWrong)

/-- 'laws.FnExactCommutingPairs': WHATEVER THE INPUT: true; the input reads as it did. -/
def fnExactCommutingPairsSpec : ChangeSpec := { name := "fnExactCommutingPairs", fn := fun _ => fun
  | [d] => { results := [.lit (.bool true)], args := [d] }
  | _ => none }
def fnExactCommutingPairsRow : OpenClaim := { program := "ytffonncbmddjgaa", sum := "7a1189e76919f6da9c22211fc06d540012d987f352b6c626ff0b94661930a419", func := "loop.example/g01194/laws.FnExactCommutingPairs", spec := "fnExactCommutingPairs", unfollowed := true, recurses := true, plainKeys := false, apart := false }
def FnExactCommutingPairsSaid : Prop := fnExactCommutingPairsRow.holds Try.pinned (OpenSpec.ofChange fnExactCommutingPairsSpec)

/-- ITS FALSE NEIGHBOUR: 'it returns false'. Refute it at one input. -/
def fnExactCommutingPairsWrong : ChangeSpec := { name := "fnExactCommutingPairs", fn := fun _ => fun
  | [d] => { results := [.lit (.bool false)], args := [d] }
  | _ => none }
def FnExactCommutingPairsWrongFalsely : Prop := fnExactCommutingPairsRow.holds Try.pinned (OpenSpec.ofChange fnExactCommutingPairsWrong)

/-- 'laws.FnExactDistinctMoves': WHATEVER THE INPUT: true; the input reads as it did. -/
def fnExactDistinctMovesSpec : ChangeSpec := { name := "fnExactDistinctMoves", fn := fun _ => fun
  | [d] => { results := [.lit (.bool true)], args := [d] }
  | _ => none }
def fnExactDistinctMovesRow : OpenClaim := { program := "ytffonncbmddjgaa", sum := "7a1189e76919f6da9c22211fc06d540012d987f352b6c626ff0b94661930a419", func := "loop.example/g01194/laws.FnExactDistinctMoves", spec := "fnExactDistinctMoves", unfollowed := true, recurses := true, plainKeys := false, apart := false }
def FnExactDistinctMovesSaid : Prop := fnExactDistinctMovesRow.holds Try.pinned (OpenSpec.ofChange fnExactDistinctMovesSpec)

/-- ITS FALSE NEIGHBOUR: 'it returns false'. Refute it at one input. -/
def fnExactDistinctMovesWrong : ChangeSpec := { name := "fnExactDistinctMoves", fn := fun _ => fun
  | [d] => { results := [.lit (.bool false)], args := [d] }
  | _ => none }
def FnExactDistinctMovesWrongFalsely : Prop := fnExactDistinctMovesRow.holds Try.pinned (OpenSpec.ofChange fnExactDistinctMovesWrong)

/- THE SECOND FORM. 'bulk': how many values and letters a reading holds, each counted each time it is reached (what is shared counts as often as it is met; a slice's spare places count too). A statement '..UptoSaid' is the law's where the arguments, and the package variables that the reading takes, are together of bulk at most 1048576: NARROWER than '..Said'. Prove '..Said' where nothing that the law and all that it calls make is longer than what came in: it says more and counts as full. Else prove '..UptoSaid'. A law counts once. -/
mutual
def uptoBulk {H : Type} : DataW H → Nat
  | .lit (.string bytes) => bytes.length + 1
  | .lit _ => 1
  | .nil => 1
  | .ptr d => uptoBulk d + 1
  | .slice elems spare => uptoBulkAll elems + uptoBulkAll spare + 1
  | .agg parts => uptoBulkAll parts + 1
  | .iface _ d => uptoBulk d + 1
  | .map entries => uptoBulkEntries entries + 1
  | .held _ => 1
def uptoBulkAll {H : Type} : List (DataW H) → Nat
  | [] => 0
  | d :: r => uptoBulk d + uptoBulkAll r
def uptoBulkEntries {H : Type} : List (Lit × DataW H) → Nat
  | [] => 0
  | x :: r => uptoBulkEntry x + uptoBulkEntries r
def uptoBulkEntry {H : Type} : Lit × DataW H → Nat
  | (.string bytes, d) => bytes.length + uptoBulk d + 1
  | (_, d) => uptoBulk d + 1
 end
def uptoSmall : (H : Type) → List (DataW H) → Bool := fun _ ds => decide (uptoBulkAll ds ≤ 1048576)
def OpenSpec.upto (s : _root_.Go.ChangeSpec) : _root_.Go.OpenSpec := { _root_.Go.OpenSpec.ofChange s with cond := some uptoSmall }

/-- 'laws.FnFormGroup', WHERE WHAT IT READS IS OF BULK AT MOST 1048576: true; the input reads as it did. -/
def fnFormGroupUptoRow : OpenClaim := { program := "ytffonncbmddjgaa", sum := "7a1189e76919f6da9c22211fc06d540012d987f352b6c626ff0b94661930a419", func := "loop.example/g01194/laws.FnFormGroup", spec := "fnFormGroup", unfollowed := true, recurses := true, plainKeys := false, apart := false, narrowed := true }
def FnFormGroupUptoSaid : Prop := fnFormGroupUptoRow.holds Try.pinned (OpenSpec.upto fnFormGroupSpec)

/-- 'laws.FnFirstForms', WHERE WHAT IT READS IS OF BULK AT MOST 1048576: true; the input reads as it did. -/
def fnFirstFormsUptoRow : OpenClaim := { program := "ytffonncbmddjgaa", sum := "7a1189e76919f6da9c22211fc06d540012d987f352b6c626ff0b94661930a419", func := "loop.example/g01194/laws.FnFirstForms", spec := "fnFirstForms", unfollowed := true, recurses := true, plainKeys := false, apart := false, narrowed := true }
def FnFirstFormsUptoSaid : Prop := fnFirstFormsUptoRow.holds Try.pinned (OpenSpec.upto fnFirstFormsSpec)

/-- 'laws.FnSlidesKeep', WHERE WHAT IT READS IS OF BULK AT MOST 1048576: true; the input reads as it did. -/
def fnSlidesKeepUptoRow : OpenClaim := { program := "ytffonncbmddjgaa", sum := "7a1189e76919f6da9c22211fc06d540012d987f352b6c626ff0b94661930a419", func := "loop.example/g01194/laws.FnSlidesKeep", spec := "fnSlidesKeep", unfollowed := true, recurses := true, plainKeys := false, apart := false, narrowed := true }
def FnSlidesKeepUptoSaid : Prop := fnSlidesKeepUptoRow.holds Try.pinned (OpenSpec.upto fnSlidesKeepSpec)

/-- 'laws.FnBoards', WHERE WHAT IT READS IS OF BULK AT MOST 1048576: true; the input reads as it did. -/
def fnBoardsUptoRow : OpenClaim := { program := "ytffonncbmddjgaa", sum := "7a1189e76919f6da9c22211fc06d540012d987f352b6c626ff0b94661930a419", func := "loop.example/g01194/laws.FnBoards", spec := "fnBoards", unfollowed := true, recurses := true, plainKeys := false, apart := false, narrowed := true }
def FnBoardsUptoSaid : Prop := fnBoardsUptoRow.holds Try.pinned (OpenSpec.upto fnBoardsSpec)

/-- 'laws.FnExactPutTile', WHERE WHAT IT READS IS OF BULK AT MOST 1048576: true; the input reads as it did. -/
def fnExactPutTileUptoRow : OpenClaim := { program := "ytffonncbmddjgaa", sum := "7a1189e76919f6da9c22211fc06d540012d987f352b6c626ff0b94661930a419", func := "loop.example/g01194/laws.FnExactPutTile", spec := "fnExactPutTile", plainKeys := false, apart := false, narrowed := true }
def FnExactPutTileUptoSaid : Prop := fnExactPutTileUptoRow.holds Try.pinned (OpenSpec.upto fnExactPutTileSpec)

/-- 'laws.FnExactTakeTile', WHERE WHAT IT READS IS OF BULK AT MOST 1048576: true; the input reads as it did. -/
def fnExactTakeTileUptoRow : OpenClaim := { program := "ytffonncbmddjgaa", sum := "7a1189e76919f6da9c22211fc06d540012d987f352b6c626ff0b94661930a419", func := "loop.example/g01194/laws.FnExactTakeTile", spec := "fnExactTakeTile", plainKeys := false, apart := false, narrowed := true }
def FnExactTakeTileUptoSaid : Prop := fnExactTakeTileUptoRow.holds Try.pinned (OpenSpec.upto fnExactTakeTileSpec)

/-- 'laws.FnExactBoardText', WHERE WHAT IT READS IS OF BULK AT MOST 1048576: true; the input reads as it did. -/
def fnExactBoardTextUptoRow : OpenClaim := { program := "ytffonncbmddjgaa", sum := "7a1189e76919f6da9c22211fc06d540012d987f352b6c626ff0b94661930a419", func := "loop.example/g01194/laws.FnExactBoardText", spec := "fnExactBoardText", plainKeys := false, apart := false, narrowed := true }
def FnExactBoardTextUptoSaid : Prop := fnExactBoardTextUptoRow.holds Try.pinned (OpenSpec.upto fnExactBoardTextSpec)

/-- 'laws.FnExactParseBoard', WHERE WHAT IT READS IS OF BULK AT MOST 1048576: true; the input reads as it did. -/
def fnExactParseBoardUptoRow : OpenClaim := { program := "ytffonncbmddjgaa", sum := "7a1189e76919f6da9c22211fc06d540012d987f352b6c626ff0b94661930a419", func := "loop.example/g01194/laws.FnExactParseBoard", spec := "fnExactParseBoard", plainKeys := false, apart := false, narrowed := true }
def FnExactParseBoardUptoSaid : Prop := fnExactParseBoardUptoRow.holds Try.pinned (OpenSpec.upto fnExactParseBoardSpec)

/-- 'laws.FnExactFormBoard', WHERE WHAT IT READS IS OF BULK AT MOST 1048576: true; the input reads as it did. -/
def fnExactFormBoardUptoRow : OpenClaim := { program := "ytffonncbmddjgaa", sum := "7a1189e76919f6da9c22211fc06d540012d987f352b6c626ff0b94661930a419", func := "loop.example/g01194/laws.FnExactFormBoard", spec := "fnExactFormBoard", unfollowed := true, recurses := true, plainKeys := false, apart := false, narrowed := true }
def FnExactFormBoardUptoSaid : Prop := fnExactFormBoardUptoRow.holds Try.pinned (OpenSpec.upto fnExactFormBoardSpec)

/-- 'laws.FnExactFormBehind', WHERE WHAT IT READS IS OF BULK AT MOST 1048576: true; the input reads as it did. -/
def fnExactFormBehindUptoRow : OpenClaim := { program := "ytffonncbmddjgaa", sum := "7a1189e76919f6da9c22211fc06d540012d987f352b6c626ff0b94661930a419", func := "loop.example/g01194/laws.FnExactFormBehind", spec := "fnExactFormBehind", plainKeys := false, apart := false, narrowed := true }
def FnExactFormBehindUptoSaid : Prop := fnExactFormBehindUptoRow.holds Try.pinned (OpenSpec.upto fnExactFormBehindSpec)

/-- 'laws.FnExactFormBack', WHERE WHAT IT READS IS OF BULK AT MOST 1048576: true; the input reads as it did. -/
def fnExactFormBackUptoRow : OpenClaim := { program := "ytffonncbmddjgaa", sum := "7a1189e76919f6da9c22211fc06d540012d987f352b6c626ff0b94661930a419", func := "loop.example/g01194/laws.FnExactFormBack", spec := "fnExactFormBack", plainKeys := false, apart := false, narrowed := true }
def FnExactFormBackUptoSaid : Prop := fnExactFormBackUptoRow.holds Try.pinned (OpenSpec.upto fnExactFormBackSpec)

/-- 'laws.FnExactFormSide', WHERE WHAT IT READS IS OF BULK AT MOST 1048576: true; the input reads as it did. -/
def fnExactFormSideUptoRow : OpenClaim := { program := "ytffonncbmddjgaa", sum := "7a1189e76919f6da9c22211fc06d540012d987f352b6c626ff0b94661930a419", func := "loop.example/g01194/laws.FnExactFormSide", spec := "fnExactFormSide", plainKeys := false, apart := false, narrowed := true }
def FnExactFormSideUptoSaid : Prop := fnExactFormSideUptoRow.holds Try.pinned (OpenSpec.upto fnExactFormSideSpec)

/-- 'laws.FnExactFirstForm', WHERE WHAT IT READS IS OF BULK AT MOST 1048576: true; the input reads as it did. -/
def fnExactFirstFormUptoRow : OpenClaim := { program := "ytffonncbmddjgaa", sum := "7a1189e76919f6da9c22211fc06d540012d987f352b6c626ff0b94661930a419", func := "loop.example/g01194/laws.FnExactFirstForm", spec := "fnExactFirstForm", unfollowed := true, recurses := true, plainKeys := false, apart := false, narrowed := true }
def FnExactFirstFormUptoSaid : Prop := fnExactFirstFormUptoRow.holds Try.pinned (OpenSpec.upto fnExactFirstFormSpec)

/-- 'laws.FnExactAreSameForm', WHERE WHAT IT READS IS OF BULK AT MOST 1048576: true; the input reads as it did. -/
def fnExactAreSameFormUptoRow : OpenClaim := { program := "ytffonncbmddjgaa", sum := "7a1189e76919f6da9c22211fc06d540012d987f352b6c626ff0b94661930a419", func := "loop.example/g01194/laws.FnExactAreSameForm", spec := "fnExactAreSameForm", unfollowed := true, recurses := true, plainKeys := false, apart := false, narrowed := true }
def FnExactAreSameFormUptoSaid : Prop := fnExactAreSameFormUptoRow.holds Try.pinned (OpenSpec.upto fnExactAreSameFormSpec)

/-- 'laws.FnExactSymmetriesOf', WHERE WHAT IT READS IS OF BULK AT MOST 1048576: true; the input reads as it did. -/
def fnExactSymmetriesOfUptoRow : OpenClaim := { program := "ytffonncbmddjgaa", sum := "7a1189e76919f6da9c22211fc06d540012d987f352b6c626ff0b94661930a419", func := "loop.example/g01194/laws.FnExactSymmetriesOf", spec := "fnExactSymmetriesOf", unfollowed := true, recurses := true, plainKeys := false, apart := false, narrowed := true }
def FnExactSymmetriesOfUptoSaid : Prop := fnExactSymmetriesOfUptoRow.holds Try.pinned (OpenSpec.upto fnExactSymmetriesOfSpec)

/-- 'laws.FnExactCountForms', WHERE WHAT IT READS IS OF BULK AT MOST 1048576: true; the input reads as it did. -/
def fnExactCountFormsUptoRow : OpenClaim := { program := "ytffonncbmddjgaa", sum := "7a1189e76919f6da9c22211fc06d540012d987f352b6c626ff0b94661930a419", func := "loop.example/g01194/laws.FnExactCountForms", spec := "fnExactCountForms", unfollowed := true, recurses := true, plainKeys := false, apart := false, narrowed := true }
def FnExactCountFormsUptoSaid : Prop := fnExactCountFormsUptoRow.holds Try.pinned (OpenSpec.upto fnExactCountFormsSpec)

/-- 'laws.FnExactFormsOf', WHERE WHAT IT READS IS OF BULK AT MOST 1048576: true; the input reads as it did. -/
def fnExactFormsOfUptoRow : OpenClaim := { program := "ytffonncbmddjgaa", sum := "7a1189e76919f6da9c22211fc06d540012d987f352b6c626ff0b94661930a419", func := "loop.example/g01194/laws.FnExactFormsOf", spec := "fnExactFormsOf", unfollowed := true, recurses := true, plainKeys := false, apart := false, narrowed := true }
def FnExactFormsOfUptoSaid : Prop := fnExactFormsOfUptoRow.holds Try.pinned (OpenSpec.upto fnExactFormsOfSpec)

/-- 'laws.FnExactDoCommute', WHERE WHAT IT READS IS OF BULK AT MOST 1048576: true; the input reads as it did. -/
def fnExactDoCommuteUptoRow : OpenClaim := { program := "ytffonncbmddjgaa", sum := "7a1189e76919f6da9c22211fc06d540012d987f352b6c626ff0b94661930a419", func := "loop.example/g01194/laws.FnExactDoCommute", spec := "fnExactDoCommute", unfollowed := true, recurses := true, plainKeys := false, apart := false, narrowed := true }
def FnExactDoCommuteUptoSaid : Prop := fnExactDoCommuteUptoRow.holds Try.pinned (OpenSpec.upto fnExactDoCommuteSpec)

/-- 'laws.FnExactCommutingPairs', WHERE WHAT IT READS IS OF BULK AT MOST 1048576: true; the input reads as it did. -/
def fnExactCommutingPairsUptoRow : OpenClaim := { program := "ytffonncbmddjgaa", sum := "7a1189e76919f6da9c22211fc06d540012d987f352b6c626ff0b94661930a419", func := "loop.example/g01194/laws.FnExactCommutingPairs", spec := "fnExactCommutingPairs", unfollowed := true, recurses := true, plainKeys := false, apart := false, narrowed := true }
def FnExactCommutingPairsUptoSaid : Prop := fnExactCommutingPairsUptoRow.holds Try.pinned (OpenSpec.upto fnExactCommutingPairsSpec)

/-- 'laws.FnExactDistinctMoves', WHERE WHAT IT READS IS OF BULK AT MOST 1048576: true; the input reads as it did. -/
def fnExactDistinctMovesUptoRow : OpenClaim := { program := "ytffonncbmddjgaa", sum := "7a1189e76919f6da9c22211fc06d540012d987f352b6c626ff0b94661930a419", func := "loop.example/g01194/laws.FnExactDistinctMoves", spec := "fnExactDistinctMoves", unfollowed := true, recurses := true, plainKeys := false, apart := false, narrowed := true }
def FnExactDistinctMovesUptoSaid : Prop := fnExactDistinctMovesUptoRow.holds Try.pinned (OpenSpec.upto fnExactDistinctMovesSpec)

end Rows
end Go.Proofs.Ytffonncbmddjgaa
