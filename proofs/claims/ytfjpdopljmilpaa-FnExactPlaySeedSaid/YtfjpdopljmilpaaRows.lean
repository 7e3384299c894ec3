/-
  No cell of these rows narrows 'for every input' (looked for: loops, veiled, ifaces, maps, wideKeys, modest, calm, conditions, laid).
  DERIVED. THE GIVEN ROWS OF THIS SEAT. 11 by the template 'for every input the law returns true; each argument reads behind the call as it read before'; 0 by the template 'total and deterministic' (their statements: YtfjpdopljmilpaaTotals.lean).
  GIVEN WITH THE SEED: the statements are not yours to turn. If you find one false, say at which input.
  Laid BY PROGRAM, IN A SANDBOX (cutbox-rows.mjs): the forced cells as the released guide's own fill.sh prints them over the translation 71ff34e6917d321d… (all of the seat's roots in one cut). By AI agents, Wed Nov 11 2026. No macro, syntax, notation, axiom, sorry.
-/
import Derived.Test.YtfjpdopljmilpaaChecked
import GoSem.Claim
import GoSem.ClaimJoined
import GoSem.ClaimMapViews
import Derived.JoinedTies
import Derived.KernelRfl
namespace Go.Proofs.Ytfjpdopljmilpaa
/- THE CELL 'sum', in the pinned program and in every row, IS THE sha256 OF THE DUMP (.gsa) THAT YtfjpdopljmilpaaProg.lean LOADS. Nothing in Lean hashes anything: it is a label: what it is worth is what the hold of that sum in a sandbox is worth. -/
noncomputable def Try.pinned : Pinned := { name := "ytfjpdopljmilpaa", sum := "71ff34e6917d321d521616a3ddc256c017ea67d0f7539d91747b7a5551418fa6", checked := Try.checked }
namespace Rows
def none {H : Type} : Left H := { results := [], args := [] }

/-- 'laws.FnExactPlaySeed': WHATEVER THE INPUT: true; the input reads as it did. -/
def fnExactPlaySeedSpec : ChangeSpec := { name := "fnExactPlaySeed", fn := fun _ => fun
  | [d1, d2, d3, d4] => { results := [.lit (.bool true)], args := [d1, d2, d3, d4] }
  | _ => none }
def fnExactPlaySeedRow : OpenClaim := { program := "ytfjpdopljmilpaa", sum := "71ff34e6917d321d521616a3ddc256c017ea67d0f7539d91747b7a5551418fa6", func := "loop.example/g01194/laws.FnExactPlaySeed", spec := "fnExactPlaySeed", unfollowed := true, recurses := true, plainKeys := false, apart := false }
def FnExactPlaySeedSaid : Prop := fnExactPlaySeedRow.holds Try.pinned (OpenSpec.ofChange fnExactPlaySeedSpec)

/-- ITS FALSE NEIGHBOUR: 'it returns false'. Refute it at one input. -/
def fnExactPlaySeedWrong : ChangeSpec := { name := "fnExactPlaySeed", fn := fun _ => fun
  | [d1, d2, d3, d4] => { results := [.lit (.bool false)], args := [d1, d2, d3, d4] }
  | _ => none }
def FnExactPlaySeedWrongFalsely : Prop := fnExactPlaySeedRow.holds Try.pinned (OpenSpec.ofChange fnExactPlaySeedWrong)

/-- 'laws.FnExactSeedTile': WHATEVER THE INPUT: true; the input reads as it did. -/
def fnExactSeedTileSpec : ChangeSpec := { name := "fnExactSeedTile", fn := fun _ => fun
  | [d1, d2] => { results := [.lit (.bool true)], args := [d1, d2] }
  | _ => none }
def fnExactSeedTileRow : OpenClaim := { program := "ytfjpdopljmilpaa", sum := "71ff34e6917d321d521616a3ddc256c017ea67d0f7539d91747b7a5551418fa6", func := "loop.example/g01194/laws.FnExactSeedTile", spec := "fnExactSeedTile", plainKeys := false, apart := false }
def FnExactSeedTileSaid : Prop := fnExactSeedTileRow.holds Try.pinned (OpenSpec.ofChange fnExactSeedTileSpec)

/-- ITS FALSE NEIGHBOUR: 'it returns false'. Refute it at one input. -/
def fnExactSeedTileWrong : ChangeSpec := { name := "fnExactSeedTile", fn := fun _ => fun
  | [d1, d2] => { results := [.lit (.bool false)], args := [d1, d2] }
  | _ => none }
def FnExactSeedTileWrongFalsely : Prop := fnExactSeedTileRow.holds Try.pinned (OpenSpec.ofChange fnExactSeedTileWrong)

/-- 'laws.FnReplays': WHATEVER THE INPUT: true; the input reads as it did. -/
def fnReplaysSpec : ChangeSpec := { name := "fnReplays", fn := fun _ => fun
  | [d] => { results := [.lit (.bool true)], args := [d] }
  | _ => none }
def fnReplaysRow : OpenClaim := { program := "ytfjpdopljmilpaa", sum := "71ff34e6917d321d521616a3ddc256c017ea67d0f7539d91747b7a5551418fa6", func := "loop.example/g01194/laws.FnReplays", spec := "fnReplays", unfollowed := true, recurses := true, plainKeys := false, apart := false }
def FnReplaysSaid : Prop := fnReplaysRow.holds Try.pinned (OpenSpec.ofChange fnReplaysSpec)

/-- ITS FALSE NEIGHBOUR: 'it returns false'. Refute it at one input. -/
def fnReplaysWrong : ChangeSpec := { name := "fnReplays", fn := fun _ => fun
  | [d] => { results := [.lit (.bool false)], args := [d] }
  | _ => none }
def FnReplaysWrongFalsely : Prop := fnReplaysRow.holds Try.pinned (OpenSpec.ofChange fnReplaysWrong)

/-- 'laws.FnPlayed': WHATEVER THE INPUT: true; the input reads as it did. -/
def fnPlayedSpec : ChangeSpec := { name := "fnPlayed", fn := fun _ => fun
  | [d] => { results := [.lit (.bool true)], args := [d] }
  | _ => none }
def fnPlayedRow : OpenClaim := { program := "ytfjpdopljmilpaa", sum := "71ff34e6917d321d521616a3ddc256c017ea67d0f7539d91747b7a5551418fa6", func := "loop.example/g01194/laws.FnPlayed", spec := "fnPlayed", unfollowed := true, recurses := true, plainKeys := false, apart := false }
def FnPlayedSaid : Prop := fnPlayedRow.holds Try.pinned (OpenSpec.ofChange fnPlayedSpec)

/-- ITS FALSE NEIGHBOUR: 'it returns false'. Refute it at one input. -/
def fnPlayedWrong : ChangeSpec := { name := "fnPlayed", fn := fun _ => fun
  | [d] => { results := [.lit (.bool false)], args := [d] }
  | _ => none }
def FnPlayedWrongFalsely : Prop := fnPlayedRow.holds Try.pinned (OpenSpec.ofChange fnPlayedWrong)

/-- 'laws.FnChances': WHATEVER THE INPUT: true; the input reads as it did. -/
def fnChancesSpec : ChangeSpec := { name := "fnChances", fn := fun _ => fun
  | [d] => { results := [.lit (.bool true)], args := [d] }
  | _ => none }
def fnChancesRow : OpenClaim := { program := "ytfjpdopljmilpaa", sum := "71ff34e6917d321d521616a3ddc256c017ea67d0f7539d91747b7a5551418fa6", func := "loop.example/g01194/laws.FnChances", spec := "fnChances", unfollowed := true, recurses := true, plainKeys := false, apart := false }
def FnChancesSaid : Prop := fnChancesRow.holds Try.pinned (OpenSpec.ofChange fnChancesSpec)

/-- ITS FALSE NEIGHBOUR: 'it returns false'. Refute it at one input. -/
def fnChancesWrong : ChangeSpec := { name := "fnChances", fn := fun _ => fun
  | [d] => { results := [.lit (.bool false)], args := [d] }
  | _ => none }
def FnChancesWrongFalsely : Prop := fnChancesRow.holds Try.pinned (OpenSpec.ofChange fnChancesWrong)

/-- 'laws.FnRules': WHATEVER THE INPUT: true; the input reads as it did. -/
def fnRulesSpec : ChangeSpec := { name := "fnRules", fn := fun _ => fun
  | [d] => { results := [.lit (.bool true)], args := [d] }
  | _ => none }
def fnRulesRow : OpenClaim := { program := "ytfjpdopljmilpaa", sum := "71ff34e6917d321d521616a3ddc256c017ea67d0f7539d91747b7a5551418fa6", func := "loop.example/g01194/laws.FnRules", spec := "fnRules", unfollowed := true, recurses := true, plainKeys := false, apart := false }
def FnRulesSaid : Prop := fnRulesRow.holds Try.pinned (OpenSpec.ofChange fnRulesSpec)

/-- ITS FALSE NEIGHBOUR: 'it returns false'. Refute it at one input. -/
def fnRulesWrong : ChangeSpec := { name := "fnRules", fn := fun _ => fun
  | [d] => { results := [.lit (.bool false)], args := [d] }
  | _ => none }
def FnRulesWrongFalsely : Prop := fnRulesRow.holds Try.pinned (OpenSpec.ofChange fnRulesWrong)

/-- 'laws.FnRuleSlides': WHATEVER THE INPUT: true; the input reads as it did. -/
def fnRuleSlidesSpec : ChangeSpec := { name := "fnRuleSlides", fn := fun _ => fun
  | [d] => { results := [.lit (.bool true)], args := [d] }
  | _ => none }
def fnRuleSlidesRow : OpenClaim := { program := "ytfjpdopljmilpaa", sum := "71ff34e6917d321d521616a3ddc256c017ea67d0f7539d91747b7a5551418fa6", func := "loop.example/g01194/laws.FnRuleSlides", spec := "fnRuleSlides", unfollowed := true, recurses := true, plainKeys := false, apart := false }
def FnRuleSlidesSaid : Prop := fnRuleSlidesRow.holds Try.pinned (OpenSpec.ofChange fnRuleSlidesSpec)

/-- ITS FALSE NEIGHBOUR: 'it returns false'. Refute it at one input. -/
def fnRuleSlidesWrong : ChangeSpec := { name := "fnRuleSlides", fn := fun _ => fun
  | [d] => { results := [.lit (.bool false)], args := [d] }
  | _ => none }
def FnRuleSlidesWrongFalsely : Prop := fnRuleSlidesRow.holds Try.pinned (OpenSpec.ofChange fnRuleSlidesWrong)

/-- 'laws.FnExactFewestSlides': WHATEVER THE INPUT: true; the input reads as it did. -/
def fnExactFewestSlidesSpec : ChangeSpec := { name := "fnExactFewestSlides", fn := fun _ => fun
  | [d1, d2] => { results := [.lit (.bool true)], args := [d1, d2] }
  | _ => none }
def fnExactFewestSlidesRow : OpenClaim := { program := "ytfjpdopljmilpaa", sum := "71ff34e6917d321d521616a3ddc256c017ea67d0f7539d91747b7a5551418fa6", func := "loop.example/g01194/laws.FnExactFewestSlides", spec := "fnExactFewestSlides", unfollowed := true, recurses := true, plainKeys := false, apart := false }
def FnExactFewestSlidesSaid : Prop := fnExactFewestSlidesRow.holds Try.pinned (OpenSpec.ofChange fnExactFewestSlidesSpec)

/-- ITS FALSE NEIGHBOUR: 'it returns false'. Refute it at one input. -/
def fnExactFewestSlidesWrong : ChangeSpec := { name := "fnExactFewestSlides", fn := fun _ => fun
  | [d1, d2] => { results := [.lit (.bool false)], args := [d1, d2] }
  | _ => none }
def FnExactFewestSlidesWrongFalsely : Prop := fnExactFewestSlidesRow.holds Try.pinned (OpenSpec.ofChange fnExactFewestSlidesWrong)

/-- 'laws.FnExactFirstSlides': WHATEVER THE INPUT: true; the input reads as it did. -/
def fnExactFirstSlidesSpec : ChangeSpec := { name := "fnExactFirstSlides", fn := fun _ => fun
  | [d1, d2] => { results := [.lit (.bool true)], args := [d1, d2] }
  | _ => none }
def fnExactFirstSlidesRow : OpenClaim := { program := "ytfjpdopljmilpaa", sum := "71ff34e6917d321d521616a3ddc256c017ea67d0f7539d91747b7a5551418fa6", func := "loop.example/g01194/laws.FnExactFirstSlides", spec := "fnExactFirstSlides", unfollowed := true, recurses := true, plainKeys := false, apart := false }
def FnExactFirstSlidesSaid : Prop := fnExactFirstSlidesRow.holds Try.pinned (OpenSpec.ofChange fnExactFirstSlidesSpec)

/-- ITS FALSE NEIGHBOUR: 'it returns false'. Refute it at one input. -/
def fnExactFirstSlidesWrong : ChangeSpec := { name := "fnExactFirstSlides", fn := fun _ => fun
  | [d1, d2] => { results := [.lit (.bool false)], args := [d1, d2] }
  | _ => none }
def FnExactFirstSlidesWrongFalsely : Prop := fnExactFirstSlidesRow.holds Try.pinned (OpenSpec.ofChange fnExactFirstSlidesWrong)

/-- 'laws.FnReach': WHATEVER THE INPUT: true; the input reads as it did. -/
def fnReachSpec : ChangeSpec := { name := "fnReach", fn := fun _ => fun
  | [d] => { results := [.lit (.bool true)], args := [d] }
  | _ => none }
def fnReachRow : OpenClaim := { program := "ytfjpdopljmilpaa", sum := "71ff34e6917d321d521616a3ddc256c017ea67d0f7539d91747b7a5551418fa6", func := "loop.example/g01194/laws.FnReach", spec := "fnReach", unfollowed := true, recurses := true, plainKeys := false, apart := false }
def FnReachSaid : Prop := fnReachRow.holds Try.pinned (OpenSpec.ofChange fnReachSpec)

/-- ITS FALSE NEIGHBOUR: 'it returns false'. Refute it at one input. -/
def fnReachWrong : ChangeSpec := { name := "fnReach", fn := fun _ => fun
  | [d] => { results := [.lit (.bool false)], args := [d] }
  | _ => none }
def FnReachWrongFalsely : Prop := fnReachRow.holds Try.pinned (OpenSpec.ofChange fnReachWrong)

/-- 'laws.FnSlides': WHATEVER THE INPUT: true; the input reads as it did. -/
def fnSlidesSpec : ChangeSpec := { name := "fnSlides", fn := fun _ => fun
  | [d] => { results := [.lit (.bool true)], args := [d] }
  | _ => none }
def fnSlidesRow : OpenClaim := { program := "ytfjpdopljmilpaa", sum := "71ff34e6917d321d521616a3ddc256c017ea67d0f7539d91747b7a5551418fa6", func := "loop.example/g01194/laws.FnSlides", spec := "fnSlides", unfollowed := true, recurses := true, plainKeys := false, apart := false }
def FnSlidesSaid : Prop := fnSlidesRow.holds Try.pinned (OpenSpec.ofChange fnSlidesSpec)

/-- ITS FALSE NEIGHBOUR: 'it returns false'. Refute it at one input. -/
def fnSlidesWrong : ChangeSpec := { name := "fnSlides", fn := fun _ => fun
  | [d] => { results := [.lit (.bool false)], args := [d] }
  | _ => none }
def FnSlidesWrongFalsely : Prop := fnSlidesRow.holds Try.pinned (OpenSpec.ofChange fnSlidesWrong)

/- THE SECOND FORM. 'bulk': how many values and letters a reading holds, each counted each time it is reached (what is shared counts as often as it is met; a slice's spare places count too). A statement '..UptoSaid' is the law's where the arguments, and the package variables that the reading takes, are together of bulk at most 1048576: NARROWER than '..Said'. Prove '..Said' where nothing that the law and all that it calls make is longer than what came in: it says more and counts as full. Else prove '..UptoSaid'. A law counts once. -/
mutual
def uptoBulk {H : Type} : DataW H → Nat
  | .lit (.string bytes) => bytes.length + 1
  | .lit _ => 1
  | .nil => 1
  | .ptr d => uptoBulk d + 1
  | .slice elems spare => uptoBulkAll elems + uptoBulkAll spare + 1
  | .agg parts => uptoBulkAll parts + 1
  | .iface _ d => uptoBulk d + 1
  | .map entries => uptoBulkEntries entries + 1
  | .held _ => 1
def uptoBulkAll {H : Type} : List (DataW H) → Nat
  | [] => 0
  | d :: r => uptoBulk d + uptoBulkAll r
def uptoBulkEntries {H : Type} : List (Lit × DataW H) → Nat
  | [] => 0
  | x :: r => uptoBulkEntry x + uptoBulkEntries r
def uptoBulkEntry {H : Type} : Lit × DataW H → Nat
  | (.string bytes, d) => bytes.length + uptoBulk d + 1
  | (_, d) => uptoBulk d + 1
 end
def uptoSmall : (H : Type) → List (DataW H) → Bool := fun _ ds => decide (uptoBulkAll ds ≤ 1048576)
def OpenSpec.upto (s : _root_.Go.ChangeSpec) : _root_.Go.OpenSpec := { _root_.Go.OpenSpec.ofChange s with cond := some uptoSmall }

/-- 'laws.FnExactPlaySeed', WHERE WHAT IT READS IS OF BULK AT MOST 1048576: true; the input reads as it did. -/
def fnExactPlaySeedUptoRow : OpenClaim := { program := "ytfjpdopljmilpaa", sum := "71ff34e6917d321d521616a3ddc256c017ea67d0f7539d91747b7a5551418fa6", func := "loop.example/g01194/laws.FnExactPlaySeed", spec := "fnExactPlaySeed", unfollowed := true, recurses := true, plainKeys := false, apart := false, narrowed := true }
def FnExactPlaySeedUptoSaid : Prop := fnExactPlaySeedUptoRow.holds Try.pinned (OpenSpec.upto fnExactPlaySeedSpec)

/-- 'laws.FnExactSeedTile', WHERE WHAT IT READS IS OF BULK AT MOST 1048576: true; the input reads as it did. -/
def fnExactSeedTileUptoRow : OpenClaim := { program := "ytfjpdopljmilpaa", sum := "71ff34e6917d321d521616a3ddc256c017ea67d0f7539d91747b7a5551418fa6", func := "loop.example/g01194/laws.FnExactSeedTile", spec := "fnExactSeedTile", plainKeys := false, apart := false, narrowed := true }
def FnExactSeedTileUptoSaid : Prop := fnExactSeedTileUptoRow.holds Try.pinned (OpenSpec.upto fnExactSeedTileSpec)

/-- 'laws.FnReplays', WHERE WHAT IT READS IS OF BULK AT MOST 1048576: true; the input reads as it did. -/
def fnReplaysUptoRow : OpenClaim := { program := "ytfjpdopljmilpaa", sum := "71ff34e6917d321d521616a3ddc256c017ea67d0f7539d91747b7a5551418fa6", func := "loop.example/g01194/laws.FnReplays", spec := "fnReplays", unfollowed := true, recurses := true, plainKeys := false, apart := false, narrowed := true }
def FnReplaysUptoSaid : Prop := fnReplaysUptoRow.holds Try.pinned (OpenSpec.upto fnReplaysSpec)

/-- 'laws.FnPlayed', WHERE WHAT IT READS IS OF BULK AT MOST 1048576: true; the input reads as it did. -/
def fnPlayedUptoRow : OpenClaim := { program := "ytfjpdopljmilpaa", sum := "71ff34e6917d321d521616a3ddc256c017ea67d0f7539d91747b7a5551418fa6", func := "loop.example/g01194/laws.FnPlayed", spec := "fnPlayed", unfollowed := true, recurses := true, plainKeys := false, apart := false, narrowed := true }
def FnPlayedUptoSaid : Prop := fnPlayedUptoRow.holds Try.pinned (OpenSpec.upto fnPlayedSpec)

/-- 'laws.FnChances', WHERE WHAT IT READS IS OF BULK AT MOST 1048576: true; the input reads as it did. -/
def fnChancesUptoRow : OpenClaim := { program := "ytfjpdopljmilpaa", sum := "71ff34e6917d321d521616a3ddc256c017ea67d0f7539d91747b7a5551418fa6", func := "loop.example/g01194/laws.FnChances", spec := "fnChances", unfollowed := true, recurses := true, plainKeys := false, apart := false, narrowed := true }
def FnChancesUptoSaid : Prop := fnChancesUptoRow.holds Try.pinned (OpenSpec.upto fnChancesSpec)

/-- 'laws.FnRules', WHERE WHAT IT READS IS OF BULK AT MOST 1048576: true; the input reads as it did. -/
def fnRulesUptoRow : OpenClaim := { program := "ytfjpdopljmilpaa", sum := "71ff34e6917d321d521616a3ddc256c017ea67d0f7539d91747b7a5551418fa6", func := "loop.example/g01194/laws.FnRules", spec := "fnRules", unfollowed := true, recurses := true, plainKeys := false, apart := false, narrowed := true }
def FnRulesUptoSaid : Prop := fnRulesUptoRow.holds Try.pinned (OpenSpec.upto fnRulesSpec)

/-- 'laws.FnRuleSlides', WHERE WHAT IT READS IS OF BULK AT MOST 1048576: true; the input reads as it did. -/
def fnRuleSlidesUptoRow : OpenClaim := { program := "ytfjpdopljmilpaa", sum := "71ff34e6917d321d521616a3ddc256c017ea67d0f7539d91747b7a5551418fa6", func := "loop.example/g01194/laws.FnRuleSlides", spec := "fnRuleSlides", unfollowed := true, recurses := true, plainKeys := false, apart := false, narrowed := true }
def FnRuleSlidesUptoSaid : Prop := fnRuleSlidesUptoRow.holds Try.pinned (OpenSpec.upto fnRuleSlidesSpec)

/-- 'laws.FnExactFewestSlides', WHERE WHAT IT READS IS OF BULK AT MOST 1048576: true; the input reads as it did. -/
def fnExactFewestSlidesUptoRow : OpenClaim := { program := "ytfjpdopljmilpaa", sum := "71ff34e6917d321d521616a3ddc256c017ea67d0f7539d91747b7a5551418fa6", func := "loop.example/g01194/laws.FnExactFewestSlides", spec := "fnExactFewestSlides", unfollowed := true, recurses := true, plainKeys := false, apart := false, narrowed := true }
def FnExactFewestSlidesUptoSaid : Prop := fnExactFewestSlidesUptoRow.holds Try.pinned (OpenSpec.upto fnExactFewestSlidesSpec)

/-- 'laws.FnExactFirstSlides', WHERE WHAT IT READS IS OF BULK AT MOST 1048576: true; the input reads as it did. -/
def fnExactFirstSlidesUptoRow : OpenClaim := { program := "ytfjpdopljmilpaa", sum := "71ff34e6917d321d521616a3ddc256c017ea67d0f7539d91747b7a5551418fa6", func := "loop.example/g01194/laws.FnExactFirstSlides", spec := "fnExactFirstSlides", unfollowed := true, recurses := true, plainKeys := false, apart := false, narrowed := true }
def FnExactFirstSlidesUptoSaid : Prop := fnExactFirstSlidesUptoRow.holds Try.pinned (OpenSpec.upto fnExactFirstSlidesSpec)

/-- 'laws.FnReach', WHERE WHAT IT READS IS OF BULK AT MOST 1048576: true; the input reads as it did. -/
def fnReachUptoRow : OpenClaim := { program := "ytfjpdopljmilpaa", sum := "71ff34e6917d321d521616a3ddc256c017ea67d0f7539d91747b7a5551418fa6", func := "loop.example/g01194/laws.FnReach", spec := "fnReach", unfollowed := true, recurses := true, plainKeys := false, apart := false, narrowed := true }
def FnReachUptoSaid : Prop := fnReachUptoRow.holds Try.pinned (OpenSpec.upto fnReachSpec)

/-- 'laws.FnSlides', WHERE WHAT IT READS IS OF BULK AT MOST 1048576: true; the input reads as it did. -/
def fnSlidesUptoRow : OpenClaim := { program := "ytfjpdopljmilpaa", sum := "71ff34e6917d321d521616a3ddc256c017ea67d0f7539d91747b7a5551418fa6", func := "loop.example/g01194/laws.FnSlides", spec := "fnSlides", unfollowed := true, recurses := true, plainKeys := false, apart := false, narrowed := true }
def FnSlidesUptoSaid : Prop := fnSlidesUptoRow.holds Try.pinned (OpenSpec.upto fnSlidesSpec)

end Rows
end Go.Proofs.Ytfjpdopljmilpaa
