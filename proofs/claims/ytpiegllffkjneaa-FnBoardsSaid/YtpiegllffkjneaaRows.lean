/-
  No cell of these rows narrows 'for every input' (looked for: loops, veiled, ifaces, maps, wideKeys, modest, calm, conditions, laid).
  DERIVED. THE GIVEN ROWS OF THIS SEAT. 8 by the template 'for every input the law returns true; each argument reads behind the call as it read before'; 0 by the template 'total and deterministic' (their statements: YtpiegllffkjneaaTotals.lean).
  GIVEN WITH THE SEED: the statements are not yours to turn. If you find one false, say at which input.
  Laid BY PROGRAM, IN A SANDBOX (cutbox-rows.mjs): the forced cells as the released guide's own fill.sh prints them over the translation 5b17a6f80758b007… (all of the seat's roots in one cut). By AI agents, Wed Nov 11 2026. No macro, syntax, notation, axiom, sorry.
-/
import Derived.Test.YtpiegllffkjneaaChecked
import GoSem.Claim
import GoSem.ClaimJoined
import GoSem.ClaimMapViews
import Derived.JoinedTies
import Derived.KernelRfl
namespace Go.Proofs.Ytpiegllffkjneaa
/- THE CELL 'sum', in the pinned program and in every row, IS THE sha256 OF THE DUMP (.gsa) THAT YtpiegllffkjneaaProg.lean LOADS. Nothing in Lean hashes anything: it is a label: what it is worth is what the hold of that sum in a sandbox is worth. -/
noncomputable def Try.pinned : Pinned := { name := "ytpiegllffkjneaa", sum := "5b17a6f80758b007d87ede7ca610771f5c7f76c57ffa34f289db409fb8936f1b", checked := Try.checked }
namespace Rows
def none {H : Type} : Left H := { results := [], args := [] }

/-- 'laws.FnFirstForms': WHATEVER THE INPUT: true; the input reads as it did. -/
def fnFirstFormsSpec : ChangeSpec := { name := "fnFirstForms", fn := fun _ => fun
  | [d] => { results := [.lit (.bool true)], args := [d] }
  | _ => none }
def fnFirstFormsRow : OpenClaim := { program := "ytpiegllffkjneaa", sum := "5b17a6f80758b007d87ede7ca610771f5c7f76c57ffa34f289db409fb8936f1b", func := "loop.example/g01194/laws.FnFirstForms", spec := "fnFirstForms", unfollowed := true, recurses := true, plainKeys := false, apart := false }
def FnFirstFormsSaid : Prop := fnFirstFormsRow.holds Try.pinned (OpenSpec.ofChange fnFirstFormsSpec)

/-- ITS FALSE NEIGHBOUR: 'it returns false'. Refute it at one input. -/
def fnFirstFormsWrong : ChangeSpec := { name := "fnFirstForms", fn := fun _ => fun
  | [d] => { results := [.lit (.bool false)], args := [d] }
  | _ => none }
def FnFirstFormsWrongFalsely : Prop := fnFirstFormsRow.holds Try.pinned (OpenSpec.ofChange fnFirstFormsWrong)

/-- 'laws.FnBoards': WHATEVER THE INPUT: true; the input reads as it did. -/
def fnBoardsSpec : ChangeSpec := { name := "fnBoards", fn := fun _ => fun
  | [d] => { results := [.lit (.bool true)], args := [d] }
  | _ => none }
def fnBoardsRow : OpenClaim := { program := "ytpiegllffkjneaa", sum := "5b17a6f80758b007d87ede7ca610771f5c7f76c57ffa34f289db409fb8936f1b", func := "loop.example/g01194/laws.FnBoards", spec := "fnBoards", unfollowed := true, recurses := true, plainKeys := false, apart := false }
def FnBoardsSaid : Prop := fnBoardsRow.holds Try.pinned (OpenSpec.ofChange fnBoardsSpec)

/-- ITS FALSE NEIGHBOUR: 'it returns false'. Refute it at one input. -/
def fnBoardsWrong : ChangeSpec := { name := "fnBoards", fn := fun _ => fun
  | [d] => { results := [.lit (.bool false)], args := [d] }
  | _ => none }
def FnBoardsWrongFalsely : Prop := fnBoardsRow.holds Try.pinned (OpenSpec.ofChange fnBoardsWrong)

/-- 'laws.FnRowsBack': WHATEVER THE INPUT: true; the input reads as it did. -/
def fnRowsBackSpec : ChangeSpec := { name := "fnRowsBack", fn := fun _ => fun
  | [d] => { results := [.lit (.bool true)], args := [d] }
  | _ => none }
def fnRowsBackRow : OpenClaim := { program := "ytpiegllffkjneaa", sum := "5b17a6f80758b007d87ede7ca610771f5c7f76c57ffa34f289db409fb8936f1b", func := "loop.example/g01194/laws.FnRowsBack", spec := "fnRowsBack", unfollowed := true, recurses := true, plainKeys := false, apart := false }
def FnRowsBackSaid : Prop := fnRowsBackRow.holds Try.pinned (OpenSpec.ofChange fnRowsBackSpec)

/-- ITS FALSE NEIGHBOUR: 'it returns false'. Refute it at one input. -/
def fnRowsBackWrong : ChangeSpec := { name := "fnRowsBack", fn := fun _ => fun
  | [d] => { results := [.lit (.bool false)], args := [d] }
  | _ => none }
def FnRowsBackWrongFalsely : Prop := fnRowsBackRow.holds Try.pinned (OpenSpec.ofChange fnRowsBackWrong)

/-- 'laws.FnExactFormsOf': WHATEVER THE INPUT: true; the input reads as it did. -/
def fnExactFormsOfSpec : ChangeSpec := { name := "fnExactFormsOf", fn := fun _ => fun
  | [d] => { results := [.lit (.bool true)], args := [d] }
  | _ => none }
def fnExactFormsOfRow : OpenClaim := { program := "ytpiegllffkjneaa", sum := "5b17a6f80758b007d87ede7ca610771f5c7f76c57ffa34f289db409fb8936f1b", func := "loop.example/g01194/laws.FnExactFormsOf", spec := "fnExactFormsOf", unfollowed := true, recurses := true, plainKeys := false, apart := false }
def FnExactFormsOfSaid : Prop := fnExactFormsOfRow.holds Try.pinned (OpenSpec.ofChange fnExactFormsOfSpec)

/-- ITS FALSE NEIGHBOUR: 'it returns false'. Refute it at one input. -/
def fnExactFormsOfWrong : ChangeSpec := { name := "fnExactFormsOf", fn := fun _ => fun
  | [d] => { results := [.lit (.bool false)], args := [d] }
  | _ => none }
def FnExactFormsOfWrongFalsely : Prop := fnExactFormsOfRow.holds Try.pinned (OpenSpec.ofChange fnExactFormsOfWrong)

/-- 'laws.FnExactDistinctMoves': WHATEVER THE INPUT: true; the input reads as it did. -/
def fnExactDistinctMovesSpec : ChangeSpec := { name := "fnExactDistinctMoves", fn := fun _ => fun
  | [d] => { results := [.lit (.bool true)], args := [d] }
  | _ => none }
def fnExactDistinctMovesRow : OpenClaim := { program := "ytpiegllffkjneaa", sum := "5b17a6f80758b007d87ede7ca610771f5c7f76c57ffa34f289db409fb8936f1b", func := "loop.example/g01194/laws.FnExactDistinctMoves", spec := "fnExactDistinctMoves", unfollowed := true, recurses := true, plainKeys := false, apart := false }
def FnExactDistinctMovesSaid : Prop := fnExactDistinctMovesRow.holds Try.pinned (OpenSpec.ofChange fnExactDistinctMovesSpec)

/-- ITS FALSE NEIGHBOUR: 'it returns false'. Refute it at one input. -/
def fnExactDistinctMovesWrong : ChangeSpec := { name := "fnExactDistinctMoves", fn := fun _ => fun
  | [d] => { results := [.lit (.bool false)], args := [d] }
  | _ => none }
def FnExactDistinctMovesWrongFalsely : Prop := fnExactDistinctMovesRow.holds Try.pinned (OpenSpec.ofChange fnExactDistinctMovesWrong)

/-- 'laws.FnExactIsImage': WHATEVER THE INPUT: true; the input reads as it did. -/
def fnExactIsImageSpec : ChangeSpec := { name := "fnExactIsImage", fn := fun _ => fun
  | [d] => { results := [.lit (.bool true)], args := [d] }
  | _ => none }
def fnExactIsImageRow : OpenClaim := { program := "ytpiegllffkjneaa", sum := "5b17a6f80758b007d87ede7ca610771f5c7f76c57ffa34f289db409fb8936f1b", func := "loop.example/g01194/laws.FnExactIsImage", spec := "fnExactIsImage", unfollowed := true, recurses := true, plainKeys := false, apart := false }
def FnExactIsImageSaid : Prop := fnExactIsImageRow.holds Try.pinned (OpenSpec.ofChange fnExactIsImageSpec)

/-- ITS FALSE NEIGHBOUR: 'it returns false'. Refute it at one input. -/
def fnExactIsImageWrong : ChangeSpec := { name := "fnExactIsImage", fn := fun _ => fun
  | [d] => { results := [.lit (.bool false)], args := [d] }
  | _ => none }
def FnExactIsImageWrongFalsely : Prop := fnExactIsImageRow.holds Try.pinned (OpenSpec.ofChange fnExactIsImageWrong)

/-- 'laws.FnExactRowsBefore': WHATEVER THE INPUT: true; the input reads as it did. -/
def fnExactRowsBeforeSpec : ChangeSpec := { name := "fnExactRowsBefore", fn := fun _ => fun
  | [d] => { results := [.lit (.bool true)], args := [d] }
  | _ => none }
def fnExactRowsBeforeRow : OpenClaim := { program := "ytpiegllffkjneaa", sum := "5b17a6f80758b007d87ede7ca610771f5c7f76c57ffa34f289db409fb8936f1b", func := "loop.example/g01194/laws.FnExactRowsBefore", spec := "fnExactRowsBefore", unfollowed := true, recurses := true, plainKeys := false, apart := false }
def FnExactRowsBeforeSaid : Prop := fnExactRowsBeforeRow.holds Try.pinned (OpenSpec.ofChange fnExactRowsBeforeSpec)

/-- ITS FALSE NEIGHBOUR: 'it returns false'. Refute it at one input. -/
def fnExactRowsBeforeWrong : ChangeSpec := { name := "fnExactRowsBefore", fn := fun _ => fun
  | [d] => { results := [.lit (.bool false)], args := [d] }
  | _ => none }
def FnExactRowsBeforeWrongFalsely : Prop := fnExactRowsBeforeRow.holds Try.pinned (OpenSpec.ofChange fnExactRowsBeforeWrong)

/-- 'laws.FnExactCountImages': WHATEVER THE INPUT: true; the input reads as it did. -/
def fnExactCountImagesSpec : ChangeSpec := { name := "fnExactCountImages", fn := fun _ => fun
  | [d] => { results := [.lit (.bool true)], args := [d] }
  | _ => none }
def fnExactCountImagesRow : OpenClaim := { program := "ytpiegllffkjneaa", sum := "5b17a6f80758b007d87ede7ca610771f5c7f76c57ffa34f289db409fb8936f1b", func := "loop.example/g01194/laws.FnExactCountImages", spec := "fnExactCountImages", plainKeys := false, apart := false }
def FnExactCountImagesSaid : Prop := fnExactCountImagesRow.holds Try.pinned (OpenSpec.ofChange fnExactCountImagesSpec)

/-- ITS FALSE NEIGHBOUR: 'it returns false'. Refute it at one input. -/
def fnExactCountImagesWrong : ChangeSpec := { name := "fnExactCountImages", fn := fun _ => fun
  | [d] => { results := [.lit (.bool false)], args := [d] }
  | _ => none }
def FnExactCountImagesWrongFalsely : Prop := fnExactCountImagesRow.holds Try.pinned (OpenSpec.ofChange fnExactCountImagesWrong)

/- THE SECOND FORM. 'bulk': how many values and letters a reading holds, each counted each time it is reached (what is shared counts as often as it is met; a slice's spare places count too). A statement '..UptoSaid' is the law's where the arguments, and the package variables that the reading takes, are together of bulk at most 1048576: NARROWER than '..Said'. Prove '..Said' where nothing that the law and all that it calls make is longer than what came in: it says more and counts as full. Else prove '..UptoSaid'. A law counts once. -/
mutual
def uptoBulk {H : Type} : DataW H → Nat
  | .lit (.string bytes) => bytes.length + 1
  | .lit _ => 1
  | .nil => 1
  | .ptr d => uptoBulk d + 1
  | .slice elems spare => uptoBulkAll elems + uptoBulkAll spare + 1
  | .agg parts => uptoBulkAll parts + 1
  | .iface _ d => uptoBulk d + 1
  | .map entries => uptoBulkEntries entries + 1
  | .held _ => 1
def uptoBulkAll {H : Type} : List (DataW H) → Nat
  | [] => 0
  | d :: r => uptoBulk d + uptoBulkAll r
def uptoBulkEntries {H : Type} : List (Lit × DataW H) → Nat
  | [] => 0
  | x :: r => uptoBulkEntry x + uptoBulkEntries r
def uptoBulkEntry {H : Type} : Lit × DataW H → Nat
  | (.string bytes, d) => bytes.length + uptoBulk d + 1
  | (_, d) => uptoBulk d + 1
 end
def uptoSmall : (H : Type) → List (DataW H) → Bool := fun _ ds => decide (uptoBulkAll ds ≤ 1048576)
def OpenSpec.upto (s : _root_.Go.ChangeSpec) : _root_.Go.OpenSpec := { _root_.Go.OpenSpec.ofChange s with cond := some uptoSmall }

/-- 'laws.FnFirstForms', WHERE WHAT IT READS IS OF BULK AT MOST 1048576: true; the input reads as it did. -/
def fnFirstFormsUptoRow : OpenClaim := { program := "ytpiegllffkjneaa", sum := "5b17a6f80758b007d87ede7ca610771f5c7f76c57ffa34f289db409fb8936f1b", func := "loop.example/g01194/laws.FnFirstForms", spec := "fnFirstForms", unfollowed := true, recurses := true, plainKeys := false, apart := false, narrowed := true }
def FnFirstFormsUptoSaid : Prop := fnFirstFormsUptoRow.holds Try.pinned (OpenSpec.upto fnFirstFormsSpec)

/-- 'laws.FnBoards', WHERE WHAT IT READS IS OF BULK AT MOST 1048576: true; the input reads as it did. -/
def fnBoardsUptoRow : OpenClaim := { program := "ytpiegllffkjneaa", sum := "5b17a6f80758b007d87ede7ca610771f5c7f76c57ffa34f289db409fb8936f1b", func := "loop.example/g01194/laws.FnBoards", spec := "fnBoards", unfollowed := true, recurses := true, plainKeys := false, apart := false, narrowed := true }
def FnBoardsUptoSaid : Prop := fnBoardsUptoRow.holds Try.pinned (OpenSpec.upto fnBoardsSpec)

/-- 'laws.FnRowsBack', WHERE WHAT IT READS IS OF BULK AT MOST 1048576: true; the input reads as it did. -/
def fnRowsBackUptoRow : OpenClaim := { program := "ytpiegllffkjneaa", sum := "5b17a6f80758b007d87ede7ca610771f5c7f76c57ffa34f289db409fb8936f1b", func := "loop.example/g01194/laws.FnRowsBack", spec := "fnRowsBack", unfollowed := true, recurses := true, plainKeys := false, apart := false, narrowed := true }
def FnRowsBackUptoSaid : Prop := fnRowsBackUptoRow.holds Try.pinned (OpenSpec.upto fnRowsBackSpec)

/-- 'laws.FnExactFormsOf', WHERE WHAT IT READS IS OF BULK AT MOST 1048576: true; the input reads as it did. -/
def fnExactFormsOfUptoRow : OpenClaim := { program := "ytpiegllffkjneaa", sum := "5b17a6f80758b007d87ede7ca610771f5c7f76c57ffa34f289db409fb8936f1b", func := "loop.example/g01194/laws.FnExactFormsOf", spec := "fnExactFormsOf", unfollowed := true, recurses := true, plainKeys := false, apart := false, narrowed := true }
def FnExactFormsOfUptoSaid : Prop := fnExactFormsOfUptoRow.holds Try.pinned (OpenSpec.upto fnExactFormsOfSpec)

/-- 'laws.FnExactDistinctMoves', WHERE WHAT IT READS IS OF BULK AT MOST 1048576: true; the input reads as it did. -/
def fnExactDistinctMovesUptoRow : OpenClaim := { program := "ytpiegllffkjneaa", sum := "5b17a6f80758b007d87ede7ca610771f5c7f76c57ffa34f289db409fb8936f1b", func := "loop.example/g01194/laws.FnExactDistinctMoves", spec := "fnExactDistinctMoves", unfollowed := true, recurses := true, plainKeys := false, apart := false, narrowed := true }
def FnExactDistinctMovesUptoSaid : Prop := fnExactDistinctMovesUptoRow.holds Try.pinned (OpenSpec.upto fnExactDistinctMovesSpec)

/-- 'laws.FnExactIsImage', WHERE WHAT IT READS IS OF BULK AT MOST 1048576: true; the input reads as it did. -/
def fnExactIsImageUptoRow : OpenClaim := { program := "ytpiegllffkjneaa", sum := "5b17a6f80758b007d87ede7ca610771f5c7f76c57ffa34f289db409fb8936f1b", func := "loop.example/g01194/laws.FnExactIsImage", spec := "fnExactIsImage", unfollowed := true, recurses := true, plainKeys := false, apart := false, narrowed := true }
def FnExactIsImageUptoSaid : Prop := fnExactIsImageUptoRow.holds Try.pinned (OpenSpec.upto fnExactIsImageSpec)

/-- 'laws.FnExactRowsBefore', WHERE WHAT IT READS IS OF BULK AT MOST 1048576: true; the input reads as it did. -/
def fnExactRowsBeforeUptoRow : OpenClaim := { program := "ytpiegllffkjneaa", sum := "5b17a6f80758b007d87ede7ca610771f5c7f76c57ffa34f289db409fb8936f1b", func := "loop.example/g01194/laws.FnExactRowsBefore", spec := "fnExactRowsBefore", unfollowed := true, recurses := true, plainKeys := false, apart := false, narrowed := true }
def FnExactRowsBeforeUptoSaid : Prop := fnExactRowsBeforeUptoRow.holds Try.pinned (OpenSpec.upto fnExactRowsBeforeSpec)

/-- 'laws.FnExactCountImages', WHERE WHAT IT READS IS OF BULK AT MOST 1048576: true; the input reads as it did. -/
def fnExactCountImagesUptoRow : OpenClaim := { program := "ytpiegllffkjneaa", sum := "5b17a6f80758b007d87ede7ca610771f5c7f76c57ffa34f289db409fb8936f1b", func := "loop.example/g01194/laws.FnExactCountImages", spec := "fnExactCountImages", plainKeys := false, apart := false, narrowed := true }
def FnExactCountImagesUptoSaid : Prop := fnExactCountImagesUptoRow.holds Try.pinned (OpenSpec.upto fnExactCountImagesSpec)

end Rows
end Go.Proofs.Ytpiegllffkjneaa
