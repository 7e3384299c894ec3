/-
  No cell of these rows narrows 'for every input' (looked for: loops, veiled, ifaces, maps, wideKeys, modest, calm, conditions, laid).
  DERIVED. THE GIVEN ROWS OF THIS SEAT. 10 by the template 'for every input the law returns true; each argument reads behind the call as it read before'; 0 by the template 'total and deterministic' (their statements: YtkocfpldgjfpeaaTotals.lean).
  GIVEN WITH THE SEED: the statements are not yours to turn. If you find one false, say at which input.
  Laid BY PROGRAM, IN A SANDBOX (cutbox-rows.mjs): the forced cells as the released guide's own fill.sh prints them over the translation 6814a05edf0e9a0b… (all of the seat's roots in one cut). By AI agents, Wed Nov 11 2026. No macro, syntax, notation, axiom, sorry.
-/
import Derived.Test.YtkocfpldgjfpeaaChecked
import GoSem.Claim
import GoSem.ClaimJoined
import GoSem.ClaimMapViews
import Derived.JoinedTies
import Derived.KernelRfl
namespace Go.Proofs.Ytkocfpldgjfpeaa
/- THE CELL 'sum', in the pinned program and in every row, IS THE sha256 OF THE DUMP (.gsa) THAT YtkocfpldgjfpeaaProg.lean LOADS. Nothing in Lean hashes anything: it is a label: what it is worth is what the hold of that sum in a sandbox is worth. -/
noncomputable def Try.pinned : Pinned := { name := "ytkocfpldgjfpeaa", sum := "6814a05edf0e9a0b31dfb83d50b364d5344f9ba5da97b055c928fb217dad1e77", checked := Try.checked }
namespace Rows
def none {H : Type} : Left H := { results := [], args := [] }

/-- 'laws.FnExactChanceOfNext': WHATEVER THE INPUT: true; the input reads as it did. -/
def fnExactChanceOfNextSpec : ChangeSpec := { name := "fnExactChanceOfNext", fn := fun _ => fun
  | [d1, d2, d3] => { results := [.lit (.bool true)], args := [d1, d2, d3] }
  | _ => none }
def fnExactChanceOfNextRow : OpenClaim := { program := "ytkocfpldgjfpeaa", sum := "6814a05edf0e9a0b31dfb83d50b364d5344f9ba5da97b055c928fb217dad1e77", func := "loop.example/g01194/laws.FnExactChanceOfNext", spec := "fnExactChanceOfNext", unfollowed := true, recurses := true, apart := false }
def FnExactChanceOfNextSaid : Prop := fnExactChanceOfNextRow.holds Try.pinned (OpenSpec.ofChange fnExactChanceOfNextSpec)

/-- ITS FALSE NEIGHBOUR: 'it returns false'. Refute it at one input. -/
def fnExactChanceOfNextWrong : ChangeSpec := { name := "fnExactChanceOfNext", fn := fun _ => fun
  | [d1, d2, d3] => { results := [.lit (.bool false)], args := [d1, d2, d3] }
  | _ => none }
def FnExactChanceOfNextWrongFalsely : Prop := fnExactChanceOfNextRow.holds Try.pinned (OpenSpec.ofChange fnExactChanceOfNextWrong)

/-- 'laws.FnExactChanceOver': WHATEVER THE INPUT: true; the input reads as it did. -/
def fnExactChanceOverSpec : ChangeSpec := { name := "fnExactChanceOver", fn := fun _ => fun
  | [d1, d2] => { results := [.lit (.bool true)], args := [d1, d2] }
  | _ => none }
def fnExactChanceOverRow : OpenClaim := { program := "ytkocfpldgjfpeaa", sum := "6814a05edf0e9a0b31dfb83d50b364d5344f9ba5da97b055c928fb217dad1e77", func := "loop.example/g01194/laws.FnExactChanceOver", spec := "fnExactChanceOver", unfollowed := true, recurses := true, apart := false }
def FnExactChanceOverSaid : Prop := fnExactChanceOverRow.holds Try.pinned (OpenSpec.ofChange fnExactChanceOverSpec)

/-- ITS FALSE NEIGHBOUR: 'it returns false'. Refute it at one input. -/
def fnExactChanceOverWrong : ChangeSpec := { name := "fnExactChanceOver", fn := fun _ => fun
  | [d1, d2] => { results := [.lit (.bool false)], args := [d1, d2] }
  | _ => none }
def FnExactChanceOverWrongFalsely : Prop := fnExactChanceOverRow.holds Try.pinned (OpenSpec.ofChange fnExactChanceOverWrong)

/-- 'laws.FnExactMeanRoom': WHATEVER THE INPUT: true; the input reads as it did. -/
def fnExactMeanRoomSpec : ChangeSpec := { name := "fnExactMeanRoom", fn := fun _ => fun
  | [d1, d2] => { results := [.lit (.bool true)], args := [d1, d2] }
  | _ => none }
def fnExactMeanRoomRow : OpenClaim := { program := "ytkocfpldgjfpeaa", sum := "6814a05edf0e9a0b31dfb83d50b364d5344f9ba5da97b055c928fb217dad1e77", func := "loop.example/g01194/laws.FnExactMeanRoom", spec := "fnExactMeanRoom", unfollowed := true, recurses := true, apart := false }
def FnExactMeanRoomSaid : Prop := fnExactMeanRoomRow.holds Try.pinned (OpenSpec.ofChange fnExactMeanRoomSpec)

/-- ITS FALSE NEIGHBOUR: 'it returns false'. Refute it at one input. -/
def fnExactMeanRoomWrong : ChangeSpec := { name := "fnExactMeanRoom", fn := fun _ => fun
  | [d1, d2] => { results := [.lit (.bool false)], args := [d1, d2] }
  | _ => none }
def FnExactMeanRoomWrongFalsely : Prop := fnExactMeanRoomRow.holds Try.pinned (OpenSpec.ofChange fnExactMeanRoomWrong)

/-- 'laws.FnExactBestRoom': WHATEVER THE INPUT: true; the input reads as it did. -/
def fnExactBestRoomSpec : ChangeSpec := { name := "fnExactBestRoom", fn := fun _ => fun
  | [d] => { results := [.lit (.bool true)], args := [d] }
  | _ => none }
def fnExactBestRoomRow : OpenClaim := { program := "ytkocfpldgjfpeaa", sum := "6814a05edf0e9a0b31dfb83d50b364d5344f9ba5da97b055c928fb217dad1e77", func := "loop.example/g01194/laws.FnExactBestRoom", spec := "fnExactBestRoom", unfollowed := true, recurses := true, apart := false }
def FnExactBestRoomSaid : Prop := fnExactBestRoomRow.holds Try.pinned (OpenSpec.ofChange fnExactBestRoomSpec)

/-- ITS FALSE NEIGHBOUR: 'it returns false'. Refute it at one input. -/
def fnExactBestRoomWrong : ChangeSpec := { name := "fnExactBestRoom", fn := fun _ => fun
  | [d] => { results := [.lit (.bool false)], args := [d] }
  | _ => none }
def FnExactBestRoomWrongFalsely : Prop := fnExactBestRoomRow.holds Try.pinned (OpenSpec.ofChange fnExactBestRoomWrong)

/-- 'laws.FnExactMeanSum': WHATEVER THE INPUT: true; the input reads as it did. -/
def fnExactMeanSumSpec : ChangeSpec := { name := "fnExactMeanSum", fn := fun _ => fun
  | [d1, d2] => { results := [.lit (.bool true)], args := [d1, d2] }
  | _ => none }
def fnExactMeanSumRow : OpenClaim := { program := "ytkocfpldgjfpeaa", sum := "6814a05edf0e9a0b31dfb83d50b364d5344f9ba5da97b055c928fb217dad1e77", func := "loop.example/g01194/laws.FnExactMeanSum", spec := "fnExactMeanSum", apart := false }
def FnExactMeanSumSaid : Prop := fnExactMeanSumRow.holds Try.pinned (OpenSpec.ofChange fnExactMeanSumSpec)

/-- ITS FALSE NEIGHBOUR: 'it returns false'. Refute it at one input. -/
def fnExactMeanSumWrong : ChangeSpec := { name := "fnExactMeanSum", fn := fun _ => fun
  | [d1, d2] => { results := [.lit (.bool false)], args := [d1, d2] }
  | _ => none }
def FnExactMeanSumWrongFalsely : Prop := fnExactMeanSumRow.holds Try.pinned (OpenSpec.ofChange fnExactMeanSumWrong)

/-- 'laws.FnExactKeepChance': WHATEVER THE INPUT: true; the input reads as it did. -/
def fnExactKeepChanceSpec : ChangeSpec := { name := "fnExactKeepChance", fn := fun _ => fun
  | [d1, d2] => { results := [.lit (.bool true)], args := [d1, d2] }
  | _ => none }
def fnExactKeepChanceRow : OpenClaim := { program := "ytkocfpldgjfpeaa", sum := "6814a05edf0e9a0b31dfb83d50b364d5344f9ba5da97b055c928fb217dad1e77", func := "loop.example/g01194/laws.FnExactKeepChance", spec := "fnExactKeepChance", unfollowed := true, recurses := true, apart := false }
def FnExactKeepChanceSaid : Prop := fnExactKeepChanceRow.holds Try.pinned (OpenSpec.ofChange fnExactKeepChanceSpec)

/-- ITS FALSE NEIGHBOUR: 'it returns false'. Refute it at one input. -/
def fnExactKeepChanceWrong : ChangeSpec := { name := "fnExactKeepChance", fn := fun _ => fun
  | [d1, d2] => { results := [.lit (.bool false)], args := [d1, d2] }
  | _ => none }
def FnExactKeepChanceWrongFalsely : Prop := fnExactKeepChanceRow.holds Try.pinned (OpenSpec.ofChange fnExactKeepChanceWrong)

/-- 'laws.FnExactMeanScore': WHATEVER THE INPUT: true; the input reads as it did. -/
def fnExactMeanScoreSpec : ChangeSpec := { name := "fnExactMeanScore", fn := fun _ => fun
  | [d1, d2] => { results := [.lit (.bool true)], args := [d1, d2] }
  | _ => none }
def fnExactMeanScoreRow : OpenClaim := { program := "ytkocfpldgjfpeaa", sum := "6814a05edf0e9a0b31dfb83d50b364d5344f9ba5da97b055c928fb217dad1e77", func := "loop.example/g01194/laws.FnExactMeanScore", spec := "fnExactMeanScore", unfollowed := true, recurses := true, apart := false }
def FnExactMeanScoreSaid : Prop := fnExactMeanScoreRow.holds Try.pinned (OpenSpec.ofChange fnExactMeanScoreSpec)

/-- ITS FALSE NEIGHBOUR: 'it returns false'. Refute it at one input. -/
def fnExactMeanScoreWrong : ChangeSpec := { name := "fnExactMeanScore", fn := fun _ => fun
  | [d1, d2] => { results := [.lit (.bool false)], args := [d1, d2] }
  | _ => none }
def FnExactMeanScoreWrongFalsely : Prop := fnExactMeanScoreRow.holds Try.pinned (OpenSpec.ofChange fnExactMeanScoreWrong)

/-- 'laws.FnExactFirstWell': WHATEVER THE INPUT: true; the input reads as it did. -/
def fnExactFirstWellSpec : ChangeSpec := { name := "fnExactFirstWell", fn := fun _ => fun
  | [d1, d2] => { results := [.lit (.bool true)], args := [d1, d2] }
  | _ => none }
def fnExactFirstWellRow : OpenClaim := { program := "ytkocfpldgjfpeaa", sum := "6814a05edf0e9a0b31dfb83d50b364d5344f9ba5da97b055c928fb217dad1e77", func := "loop.example/g01194/laws.FnExactFirstWell", spec := "fnExactFirstWell", unfollowed := true, recurses := true, apart := false }
def FnExactFirstWellSaid : Prop := fnExactFirstWellRow.holds Try.pinned (OpenSpec.ofChange fnExactFirstWellSpec)

/-- ITS FALSE NEIGHBOUR: 'it returns false'. Refute it at one input. -/
def fnExactFirstWellWrong : ChangeSpec := { name := "fnExactFirstWell", fn := fun _ => fun
  | [d1, d2] => { results := [.lit (.bool false)], args := [d1, d2] }
  | _ => none }
def FnExactFirstWellWrongFalsely : Prop := fnExactFirstWellRow.holds Try.pinned (OpenSpec.ofChange fnExactFirstWellWrong)

/-- 'laws.FnExactChanceOfTile': WHATEVER THE INPUT: true; the input reads as it did. -/
def fnExactChanceOfTileSpec : ChangeSpec := { name := "fnExactChanceOfTile", fn := fun _ => fun
  | [d1, d2, d3, d4] => { results := [.lit (.bool true)], args := [d1, d2, d3, d4] }
  | _ => none }
def fnExactChanceOfTileRow : OpenClaim := { program := "ytkocfpldgjfpeaa", sum := "6814a05edf0e9a0b31dfb83d50b364d5344f9ba5da97b055c928fb217dad1e77", func := "loop.example/g01194/laws.FnExactChanceOfTile", spec := "fnExactChanceOfTile", unfollowed := true, recurses := true, apart := false }
def FnExactChanceOfTileSaid : Prop := fnExactChanceOfTileRow.holds Try.pinned (OpenSpec.ofChange fnExactChanceOfTileSpec)

/-- ITS FALSE NEIGHBOUR: 'it returns false'. Refute it at one input. -/
def fnExactChanceOfTileWrong : ChangeSpec := { name := "fnExactChanceOfTile", fn := fun _ => fun
  | [d1, d2, d3, d4] => { results := [.lit (.bool false)], args := [d1, d2, d3, d4] }
  | _ => none }
def FnExactChanceOfTileWrongFalsely : Prop := fnExactChanceOfTileRow.holds Try.pinned (OpenSpec.ofChange fnExactChanceOfTileWrong)

/-- 'laws.FnExactMergeChance': WHATEVER THE INPUT: true; the input reads as it did. -/
def fnExactMergeChanceSpec : ChangeSpec := { name := "fnExactMergeChance", fn := fun _ => fun
  | [d1, d2] => { results := [.lit (.bool true)], args := [d1, d2] }
  | _ => none }
def fnExactMergeChanceRow : OpenClaim := { program := "ytkocfpldgjfpeaa", sum := "6814a05edf0e9a0b31dfb83d50b364d5344f9ba5da97b055c928fb217dad1e77", func := "loop.example/g01194/laws.FnExactMergeChance", spec := "fnExactMergeChance", unfollowed := true, recurses := true, apart := false }
def FnExactMergeChanceSaid : Prop := fnExactMergeChanceRow.holds Try.pinned (OpenSpec.ofChange fnExactMergeChanceSpec)

/-- ITS FALSE NEIGHBOUR: 'it returns false'. Refute it at one input. -/
def fnExactMergeChanceWrong : ChangeSpec := { name := "fnExactMergeChance", fn := fun _ => fun
  | [d1, d2] => { results := [.lit (.bool false)], args := [d1, d2] }
  | _ => none }
def FnExactMergeChanceWrongFalsely : Prop := fnExactMergeChanceRow.holds Try.pinned (OpenSpec.ofChange fnExactMergeChanceWrong)

/- THE SECOND FORM. 'bulk': how many values and letters a reading holds, each counted each time it is reached (what is shared counts as often as it is met; a slice's spare places count too). A statement '..UptoSaid' is the law's where the arguments, and the package variables that the reading takes, are together of bulk at most 1048576: NARROWER than '..Said'. Prove '..Said' where nothing that the law and all that it calls make is longer than what came in: it says more and counts as full. Else prove '..UptoSaid'. A law counts once. -/
mutual
def uptoBulk {H : Type} : DataW H → Nat
  | .lit (.string bytes) => bytes.length + 1
  | .lit _ => 1
  | .nil => 1
  | .ptr d => uptoBulk d + 1
  | .slice elems spare => uptoBulkAll elems + uptoBulkAll spare + 1
  | .agg parts => uptoBulkAll parts + 1
  | .iface _ d => uptoBulk d + 1
  | .map entries => uptoBulkEntries entries + 1
  | .held _ => 1
def uptoBulkAll {H : Type} : List (DataW H) → Nat
  | [] => 0
  | d :: r => uptoBulk d + uptoBulkAll r
def uptoBulkEntries {H : Type} : List (Lit × DataW H) → Nat
  | [] => 0
  | x :: r => uptoBulkEntry x + uptoBulkEntries r
def uptoBulkEntry {H : Type} : Lit × DataW H → Nat
  | (.string bytes, d) => bytes.length + uptoBulk d + 1
  | (_, d) => uptoBulk d + 1
 end
def uptoSmall : (H : Type) → List (DataW H) → Bool := fun _ ds => decide (uptoBulkAll ds ≤ 1048576)
def OpenSpec.upto (s : _root_.Go.ChangeSpec) : _root_.Go.OpenSpec := { _root_.Go.OpenSpec.ofChange s with cond := some uptoSmall }

/-- 'laws.FnExactChanceOfNext', WHERE WHAT IT READS IS OF BULK AT MOST 1048576: true; the input reads as it did. -/
def fnExactChanceOfNextUptoRow : OpenClaim := { program := "ytkocfpldgjfpeaa", sum := "6814a05edf0e9a0b31dfb83d50b364d5344f9ba5da97b055c928fb217dad1e77", func := "loop.example/g01194/laws.FnExactChanceOfNext", spec := "fnExactChanceOfNext", unfollowed := true, recurses := true, apart := false, narrowed := true }
def FnExactChanceOfNextUptoSaid : Prop := fnExactChanceOfNextUptoRow.holds Try.pinned (OpenSpec.upto fnExactChanceOfNextSpec)

/-- 'laws.FnExactChanceOver', WHERE WHAT IT READS IS OF BULK AT MOST 1048576: true; the input reads as it did. -/
def fnExactChanceOverUptoRow : OpenClaim := { program := "ytkocfpldgjfpeaa", sum := "6814a05edf0e9a0b31dfb83d50b364d5344f9ba5da97b055c928fb217dad1e77", func := "loop.example/g01194/laws.FnExactChanceOver", spec := "fnExactChanceOver", unfollowed := true, recurses := true, apart := false, narrowed := true }
def FnExactChanceOverUptoSaid : Prop := fnExactChanceOverUptoRow.holds Try.pinned (OpenSpec.upto fnExactChanceOverSpec)

/-- 'laws.FnExactMeanRoom', WHERE WHAT IT READS IS OF BULK AT MOST 1048576: true; the input reads as it did. -/
def fnExactMeanRoomUptoRow : OpenClaim := { program := "ytkocfpldgjfpeaa", sum := "6814a05edf0e9a0b31dfb83d50b364d5344f9ba5da97b055c928fb217dad1e77", func := "loop.example/g01194/laws.FnExactMeanRoom", spec := "fnExactMeanRoom", unfollowed := true, recurses := true, apart := false, narrowed := true }
def FnExactMeanRoomUptoSaid : Prop := fnExactMeanRoomUptoRow.holds Try.pinned (OpenSpec.upto fnExactMeanRoomSpec)

/-- 'laws.FnExactBestRoom', WHERE WHAT IT READS IS OF BULK AT MOST 1048576: true; the input reads as it did. -/
def fnExactBestRoomUptoRow : OpenClaim := { program := "ytkocfpldgjfpeaa", sum := "6814a05edf0e9a0b31dfb83d50b364d5344f9ba5da97b055c928fb217dad1e77", func := "loop.example/g01194/laws.FnExactBestRoom", spec := "fnExactBestRoom", unfollowed := true, recurses := true, apart := false, narrowed := true }
def FnExactBestRoomUptoSaid : Prop := fnExactBestRoomUptoRow.holds Try.pinned (OpenSpec.upto fnExactBestRoomSpec)

/-- 'laws.FnExactMeanSum', WHERE WHAT IT READS IS OF BULK AT MOST 1048576: true; the input reads as it did. -/
def fnExactMeanSumUptoRow : OpenClaim := { program := "ytkocfpldgjfpeaa", sum := "6814a05edf0e9a0b31dfb83d50b364d5344f9ba5da97b055c928fb217dad1e77", func := "loop.example/g01194/laws.FnExactMeanSum", spec := "fnExactMeanSum", apart := false, narrowed := true }
def FnExactMeanSumUptoSaid : Prop := fnExactMeanSumUptoRow.holds Try.pinned (OpenSpec.upto fnExactMeanSumSpec)

/-- 'laws.FnExactKeepChance', WHERE WHAT IT READS IS OF BULK AT MOST 1048576: true; the input reads as it did. -/
def fnExactKeepChanceUptoRow : OpenClaim := { program := "ytkocfpldgjfpeaa", sum := "6814a05edf0e9a0b31dfb83d50b364d5344f9ba5da97b055c928fb217dad1e77", func := "loop.example/g01194/laws.FnExactKeepChance", spec := "fnExactKeepChance", unfollowed := true, recurses := true, apart := false, narrowed := true }
def FnExactKeepChanceUptoSaid : Prop := fnExactKeepChanceUptoRow.holds Try.pinned (OpenSpec.upto fnExactKeepChanceSpec)

/-- 'laws.FnExactMeanScore', WHERE WHAT IT READS IS OF BULK AT MOST 1048576: true; the input reads as it did. -/
def fnExactMeanScoreUptoRow : OpenClaim := { program := "ytkocfpldgjfpeaa", sum := "6814a05edf0e9a0b31dfb83d50b364d5344f9ba5da97b055c928fb217dad1e77", func := "loop.example/g01194/laws.FnExactMeanScore", spec := "fnExactMeanScore", unfollowed := true, recurses := true, apart := false, narrowed := true }
def FnExactMeanScoreUptoSaid : Prop := fnExactMeanScoreUptoRow.holds Try.pinned (OpenSpec.upto fnExactMeanScoreSpec)

/-- 'laws.FnExactFirstWell', WHERE WHAT IT READS IS OF BULK AT MOST 1048576: true; the input reads as it did. -/
def fnExactFirstWellUptoRow : OpenClaim := { program := "ytkocfpldgjfpeaa", sum := "6814a05edf0e9a0b31dfb83d50b364d5344f9ba5da97b055c928fb217dad1e77", func := "loop.example/g01194/laws.FnExactFirstWell", spec := "fnExactFirstWell", unfollowed := true, recurses := true, apart := false, narrowed := true }
def FnExactFirstWellUptoSaid : Prop := fnExactFirstWellUptoRow.holds Try.pinned (OpenSpec.upto fnExactFirstWellSpec)

/-- 'laws.FnExactChanceOfTile', WHERE WHAT IT READS IS OF BULK AT MOST 1048576: true; the input reads as it did. -/
def fnExactChanceOfTileUptoRow : OpenClaim := { program := "ytkocfpldgjfpeaa", sum := "6814a05edf0e9a0b31dfb83d50b364d5344f9ba5da97b055c928fb217dad1e77", func := "loop.example/g01194/laws.FnExactChanceOfTile", spec := "fnExactChanceOfTile", unfollowed := true, recurses := true, apart := false, narrowed := true }
def FnExactChanceOfTileUptoSaid : Prop := fnExactChanceOfTileUptoRow.holds Try.pinned (OpenSpec.upto fnExactChanceOfTileSpec)

/-- 'laws.FnExactMergeChance', WHERE WHAT IT READS IS OF BULK AT MOST 1048576: true; the input reads as it did. -/
def fnExactMergeChanceUptoRow : OpenClaim := { program := "ytkocfpldgjfpeaa", sum := "6814a05edf0e9a0b31dfb83d50b364d5344f9ba5da97b055c928fb217dad1e77", func := "loop.example/g01194/laws.FnExactMergeChance", spec := "fnExactMergeChance", unfollowed := true, recurses := true, apart := false, narrowed := true }
def FnExactMergeChanceUptoSaid : Prop := fnExactMergeChanceUptoRow.holds Try.pinned (OpenSpec.upto fnExactMergeChanceSpec)

end Rows
end Go.Proofs.Ytkocfpldgjfpeaa
