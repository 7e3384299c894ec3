/-
  No cell of these rows narrows 'for every input' (looked for: loops, veiled, ifaces, maps, wideKeys, modest, calm, conditions, laid).
  DERIVED. THE GIVEN ROWS OF THIS SEAT. 10 by the template 'for every input the law returns true; each argument reads behind the call as it read before'; 0 by the template 'total and deterministic' (their statements: YtknjmkapabjolaaTotals.lean).
  GIVEN WITH THE SEED: the statements are not yours to turn. If you find one false, say at which input.
  Laid BY PROGRAM, IN A SANDBOX (cutbox-rows.mjs): the forced cells as the released guide's own fill.sh prints them over the translation 787359fe920f3bbd… (all of the seat's roots in one cut). By AI agents, Wed Nov 11 2026. No macro, syntax, notation, axiom, sorry.
-/
import Derived.Test.YtknjmkapabjolaaChecked
import GoSem.Claim
import GoSem.ClaimJoined
import GoSem.ClaimMapViews
import Derived.JoinedTies
import Derived.KernelRfl
namespace Go.Proofs.Ytknjmkapabjolaa
/- THE CELL 'sum', in the pinned program and in every row, IS THE sha256 OF THE DUMP (.gsa) THAT YtknjmkapabjolaaProg.lean LOADS. Nothing in Lean hashes anything: it is a label: what it is worth is what the hold of that sum in a sandbox is worth. -/
noncomputable def Try.pinned : Pinned := { name := "ytknjmkapabjolaa", sum := "787359fe920f3bbd73e355991ea59f1a66df4874fe036cbe36de8433d46169ac", checked := Try.checked }
namespace Rows
def none {H : Type} : Left H := { results := [], args := [] }

/-- 'laws.FnExactDoStep': WHATEVER THE INPUT: true; the input reads as it did. -/
def fnExactDoStepSpec : ChangeSpec := { name := "fnExactDoStep", fn := fun _ => fun
  | [d1, d2] => { results := [.lit (.bool true)], args := [d1, d2] }
  | _ => none }
def fnExactDoStepRow : OpenClaim := { program := "ytknjmkapabjolaa", sum := "787359fe920f3bbd73e355991ea59f1a66df4874fe036cbe36de8433d46169ac", func := "loop.example/g01194/laws.FnExactDoStep", spec := "fnExactDoStep", unfollowed := true, recurses := true, plainKeys := false, apart := false }
def FnExactDoStepSaid : Prop := fnExactDoStepRow.holds Try.pinned (OpenSpec.ofChange fnExactDoStepSpec)

/-- ITS FALSE NEIGHBOUR: 'it returns false'. Refute it at one input. -/
def fnExactDoStepWrong : ChangeSpec := { name := "fnExactDoStep", fn := fun _ => fun
  | [d1, d2] => { results := [.lit (.bool false)], args := [d1, d2] }
  | _ => none }
def FnExactDoStepWrongFalsely : Prop := fnExactDoStepRow.holds Try.pinned (OpenSpec.ofChange fnExactDoStepWrong)

/-- 'laws.FnExactStepsOf': WHATEVER THE INPUT: true; the input reads as it did. -/
def fnExactStepsOfSpec : ChangeSpec := { name := "fnExactStepsOf", fn := fun _ => fun
  | [d1, d2] => { results := [.lit (.bool true)], args := [d1, d2] }
  | _ => none }
def fnExactStepsOfRow : OpenClaim := { program := "ytknjmkapabjolaa", sum := "787359fe920f3bbd73e355991ea59f1a66df4874fe036cbe36de8433d46169ac", func := "loop.example/g01194/laws.FnExactStepsOf", spec := "fnExactStepsOf", unfollowed := true, recurses := true, plainKeys := false, apart := false }
def FnExactStepsOfSaid : Prop := fnExactStepsOfRow.holds Try.pinned (OpenSpec.ofChange fnExactStepsOfSpec)

/-- ITS FALSE NEIGHBOUR: 'it returns false'. Refute it at one input. -/
def fnExactStepsOfWrong : ChangeSpec := { name := "fnExactStepsOf", fn := fun _ => fun
  | [d1, d2] => { results := [.lit (.bool false)], args := [d1, d2] }
  | _ => none }
def FnExactStepsOfWrongFalsely : Prop := fnExactStepsOfRow.holds Try.pinned (OpenSpec.ofChange fnExactStepsOfWrong)

/-- 'laws.FnExactDoSlides': WHATEVER THE INPUT: true; the input reads as it did. -/
def fnExactDoSlidesSpec : ChangeSpec := { name := "fnExactDoSlides", fn := fun _ => fun
  | [d1, d2] => { results := [.lit (.bool true)], args := [d1, d2] }
  | _ => none }
def fnExactDoSlidesRow : OpenClaim := { program := "ytknjmkapabjolaa", sum := "787359fe920f3bbd73e355991ea59f1a66df4874fe036cbe36de8433d46169ac", func := "loop.example/g01194/laws.FnExactDoSlides", spec := "fnExactDoSlides", unfollowed := true, recurses := true, plainKeys := false, apart := false }
def FnExactDoSlidesSaid : Prop := fnExactDoSlidesRow.holds Try.pinned (OpenSpec.ofChange fnExactDoSlidesSpec)

/-- ITS FALSE NEIGHBOUR: 'it returns false'. Refute it at one input. -/
def fnExactDoSlidesWrong : ChangeSpec := { name := "fnExactDoSlides", fn := fun _ => fun
  | [d1, d2] => { results := [.lit (.bool false)], args := [d1, d2] }
  | _ => none }
def FnExactDoSlidesWrongFalsely : Prop := fnExactDoSlidesRow.holds Try.pinned (OpenSpec.ofChange fnExactDoSlidesWrong)

/-- 'laws.FnExactPlaySteps': WHATEVER THE INPUT: true; the input reads as it did. -/
def fnExactPlayStepsSpec : ChangeSpec := { name := "fnExactPlaySteps", fn := fun _ => fun
  | [d1, d2] => { results := [.lit (.bool true)], args := [d1, d2] }
  | _ => none }
def fnExactPlayStepsRow : OpenClaim := { program := "ytknjmkapabjolaa", sum := "787359fe920f3bbd73e355991ea59f1a66df4874fe036cbe36de8433d46169ac", func := "loop.example/g01194/laws.FnExactPlaySteps", spec := "fnExactPlaySteps", unfollowed := true, recurses := true, plainKeys := false, apart := false }
def FnExactPlayStepsSaid : Prop := fnExactPlayStepsRow.holds Try.pinned (OpenSpec.ofChange fnExactPlayStepsSpec)

/-- ITS FALSE NEIGHBOUR: 'it returns false'. Refute it at one input. -/
def fnExactPlayStepsWrong : ChangeSpec := { name := "fnExactPlaySteps", fn := fun _ => fun
  | [d1, d2] => { results := [.lit (.bool false)], args := [d1, d2] }
  | _ => none }
def FnExactPlayStepsWrongFalsely : Prop := fnExactPlayStepsRow.holds Try.pinned (OpenSpec.ofChange fnExactPlayStepsWrong)

/-- 'laws.FnExactStepBetween': WHATEVER THE INPUT: true; the input reads as it did. -/
def fnExactStepBetweenSpec : ChangeSpec := { name := "fnExactStepBetween", fn := fun _ => fun
  | [d1, d2] => { results := [.lit (.bool true)], args := [d1, d2] }
  | _ => none }
def fnExactStepBetweenRow : OpenClaim := { program := "ytknjmkapabjolaa", sum := "787359fe920f3bbd73e355991ea59f1a66df4874fe036cbe36de8433d46169ac", func := "loop.example/g01194/laws.FnExactStepBetween", spec := "fnExactStepBetween", unfollowed := true, recurses := true, plainKeys := false, apart := false }
def FnExactStepBetweenSaid : Prop := fnExactStepBetweenRow.holds Try.pinned (OpenSpec.ofChange fnExactStepBetweenSpec)

/-- ITS FALSE NEIGHBOUR: 'it returns false'. Refute it at one input. -/
def fnExactStepBetweenWrong : ChangeSpec := { name := "fnExactStepBetween", fn := fun _ => fun
  | [d1, d2] => { results := [.lit (.bool false)], args := [d1, d2] }
  | _ => none }
def FnExactStepBetweenWrongFalsely : Prop := fnExactStepBetweenRow.holds Try.pinned (OpenSpec.ofChange fnExactStepBetweenWrong)

/-- 'laws.FnExactCountNext': WHATEVER THE INPUT: true; the input reads as it did. -/
def fnExactCountNextSpec : ChangeSpec := { name := "fnExactCountNext", fn := fun _ => fun
  | [d] => { results := [.lit (.bool true)], args := [d] }
  | _ => none }
def fnExactCountNextRow : OpenClaim := { program := "ytknjmkapabjolaa", sum := "787359fe920f3bbd73e355991ea59f1a66df4874fe036cbe36de8433d46169ac", func := "loop.example/g01194/laws.FnExactCountNext", spec := "fnExactCountNext", unfollowed := true, recurses := true, plainKeys := false, apart := false }
def FnExactCountNextSaid : Prop := fnExactCountNextRow.holds Try.pinned (OpenSpec.ofChange fnExactCountNextSpec)

/-- ITS FALSE NEIGHBOUR: 'it returns false'. Refute it at one input. -/
def fnExactCountNextWrong : ChangeSpec := { name := "fnExactCountNext", fn := fun _ => fun
  | [d] => { results := [.lit (.bool false)], args := [d] }
  | _ => none }
def FnExactCountNextWrongFalsely : Prop := fnExactCountNextRow.holds Try.pinned (OpenSpec.ofChange fnExactCountNextWrong)

/-- 'laws.FnExactIsTrapped': WHATEVER THE INPUT: true; the input reads as it did. -/
def fnExactIsTrappedSpec : ChangeSpec := { name := "fnExactIsTrapped", fn := fun _ => fun
  | [d] => { results := [.lit (.bool true)], args := [d] }
  | _ => none }
def fnExactIsTrappedRow : OpenClaim := { program := "ytknjmkapabjolaa", sum := "787359fe920f3bbd73e355991ea59f1a66df4874fe036cbe36de8433d46169ac", func := "loop.example/g01194/laws.FnExactIsTrapped", spec := "fnExactIsTrapped", unfollowed := true, recurses := true, plainKeys := false, apart := false }
def FnExactIsTrappedSaid : Prop := fnExactIsTrappedRow.holds Try.pinned (OpenSpec.ofChange fnExactIsTrappedSpec)

/-- ITS FALSE NEIGHBOUR: 'it returns false'. Refute it at one input. -/
def fnExactIsTrappedWrong : ChangeSpec := { name := "fnExactIsTrapped", fn := fun _ => fun
  | [d] => { results := [.lit (.bool false)], args := [d] }
  | _ => none }
def FnExactIsTrappedWrongFalsely : Prop := fnExactIsTrappedRow.holds Try.pinned (OpenSpec.ofChange fnExactIsTrappedWrong)

/-- 'laws.FnExactSlideCycle': WHATEVER THE INPUT: true; the input reads as it did. -/
def fnExactSlideCycleSpec : ChangeSpec := { name := "fnExactSlideCycle", fn := fun _ => fun
  | [d1, d2] => { results := [.lit (.bool true)], args := [d1, d2] }
  | _ => none }
def fnExactSlideCycleRow : OpenClaim := { program := "ytknjmkapabjolaa", sum := "787359fe920f3bbd73e355991ea59f1a66df4874fe036cbe36de8433d46169ac", func := "loop.example/g01194/laws.FnExactSlideCycle", spec := "fnExactSlideCycle", unfollowed := true, recurses := true, plainKeys := false, apart := false }
def FnExactSlideCycleSaid : Prop := fnExactSlideCycleRow.holds Try.pinned (OpenSpec.ofChange fnExactSlideCycleSpec)

/-- ITS FALSE NEIGHBOUR: 'it returns false'. Refute it at one input. -/
def fnExactSlideCycleWrong : ChangeSpec := { name := "fnExactSlideCycle", fn := fun _ => fun
  | [d1, d2] => { results := [.lit (.bool false)], args := [d1, d2] }
  | _ => none }
def FnExactSlideCycleWrongFalsely : Prop := fnExactSlideCycleRow.holds Try.pinned (OpenSpec.ofChange fnExactSlideCycleWrong)

/-- 'laws.FnSteps': WHATEVER THE INPUT: true; the input reads as it did. -/
def fnStepsSpec : ChangeSpec := { name := "fnSteps", fn := fun _ => fun
  | [d] => { results := [.lit (.bool true)], args := [d] }
  | _ => none }
def fnStepsRow : OpenClaim := { program := "ytknjmkapabjolaa", sum := "787359fe920f3bbd73e355991ea59f1a66df4874fe036cbe36de8433d46169ac", func := "loop.example/g01194/laws.FnSteps", spec := "fnSteps", unfollowed := true, recurses := true, plainKeys := false, apart := false }
def FnStepsSaid : Prop := fnStepsRow.holds Try.pinned (OpenSpec.ofChange fnStepsSpec)

/-- ITS FALSE NEIGHBOUR: 'it returns false'. Refute it at one input. -/
def fnStepsWrong : ChangeSpec := { name := "fnSteps", fn := fun _ => fun
  | [d] => { results := [.lit (.bool false)], args := [d] }
  | _ => none }
def FnStepsWrongFalsely : Prop := fnStepsRow.holds Try.pinned (OpenSpec.ofChange fnStepsWrong)

/-- 'laws.FnCommuting': WHATEVER THE INPUT: true; the input reads as it did. -/
def fnCommutingSpec : ChangeSpec := { name := "fnCommuting", fn := fun _ => fun
  | [d] => { results := [.lit (.bool true)], args := [d] }
  | _ => none }
def fnCommutingRow : OpenClaim := { program := "ytknjmkapabjolaa", sum := "787359fe920f3bbd73e355991ea59f1a66df4874fe036cbe36de8433d46169ac", func := "loop.example/g01194/laws.FnCommuting", spec := "fnCommuting", unfollowed := true, recurses := true, plainKeys := false, apart := false }
def FnCommutingSaid : Prop := fnCommutingRow.holds Try.pinned (OpenSpec.ofChange fnCommutingSpec)

/-- ITS FALSE NEIGHBOUR: 'it returns false'. Refute it at one input. -/
def fnCommutingWrong : ChangeSpec := { name := "fnCommuting", fn := fun _ => fun
  | [d] => { results := [.lit (.bool false)], args := [d] }
  | _ => none }
def FnCommutingWrongFalsely : Prop := fnCommutingRow.holds Try.pinned (OpenSpec.ofChange fnCommutingWrong)

/- THE SECOND FORM. 'bulk': how many values and letters a reading holds, each counted each time it is reached (what is shared counts as often as it is met; a slice's spare places count too). A statement '..UptoSaid' is the law's where the arguments, and the package variables that the reading takes, are together of bulk at most 1048576: NARROWER than '..Said'. Prove '..Said' where nothing that the law and all that it calls make is longer than what came in: it says more and counts as full. Else prove '..UptoSaid'. A law counts once. -/
mutual
def uptoBulk {H : Type} : DataW H → Nat
  | .lit (.string bytes) => bytes.length + 1
  | .lit _ => 1
  | .nil => 1
  | .ptr d => uptoBulk d + 1
  | .slice elems spare => uptoBulkAll elems + uptoBulkAll spare + 1
  | .agg parts => uptoBulkAll parts + 1
  | .iface _ d => uptoBulk d + 1
  | .map entries => uptoBulkEntries entries + 1
  | .held _ => 1
def uptoBulkAll {H : Type} : List (DataW H) → Nat
  | [] => 0
  | d :: r => uptoBulk d + uptoBulkAll r
def uptoBulkEntries {H : Type} : List (Lit × DataW H) → Nat
  | [] => 0
  | x :: r => uptoBulkEntry x + uptoBulkEntries r
def uptoBulkEntry {H : Type} : Lit × DataW H → Nat
  | (.string bytes, d) => bytes.length + uptoBulk d + 1
  | (_, d) => uptoBulk d + 1
 end
def uptoSmall : (H : Type) → List (DataW H) → Bool := fun _ ds => decide (uptoBulkAll ds ≤ 1048576)
def OpenSpec.upto (s : _root_.Go.ChangeSpec) : _root_.Go.OpenSpec := { _root_.Go.OpenSpec.ofChange s with cond := some uptoSmall }

/-- 'laws.FnExactDoStep', WHERE WHAT IT READS IS OF BULK AT MOST 1048576: true; the input reads as it did. -/
def fnExactDoStepUptoRow : OpenClaim := { program := "ytknjmkapabjolaa", sum := "787359fe920f3bbd73e355991ea59f1a66df4874fe036cbe36de8433d46169ac", func := "loop.example/g01194/laws.FnExactDoStep", spec := "fnExactDoStep", unfollowed := true, recurses := true, plainKeys := false, apart := false, narrowed := true }
def FnExactDoStepUptoSaid : Prop := fnExactDoStepUptoRow.holds Try.pinned (OpenSpec.upto fnExactDoStepSpec)

/-- 'laws.FnExactStepsOf', WHERE WHAT IT READS IS OF BULK AT MOST 1048576: true; the input reads as it did. -/
def fnExactStepsOfUptoRow : OpenClaim := { program := "ytknjmkapabjolaa", sum := "787359fe920f3bbd73e355991ea59f1a66df4874fe036cbe36de8433d46169ac", func := "loop.example/g01194/laws.FnExactStepsOf", spec := "fnExactStepsOf", unfollowed := true, recurses := true, plainKeys := false, apart := false, narrowed := true }
def FnExactStepsOfUptoSaid : Prop := fnExactStepsOfUptoRow.holds Try.pinned (OpenSpec.upto fnExactStepsOfSpec)

/-- 'laws.FnExactDoSlides', WHERE WHAT IT READS IS OF BULK AT MOST 1048576: true; the input reads as it did. -/
def fnExactDoSlidesUptoRow : OpenClaim := { program := "ytknjmkapabjolaa", sum := "787359fe920f3bbd73e355991ea59f1a66df4874fe036cbe36de8433d46169ac", func := "loop.example/g01194/laws.FnExactDoSlides", spec := "fnExactDoSlides", unfollowed := true, recurses := true, plainKeys := false, apart := false, narrowed := true }
def FnExactDoSlidesUptoSaid : Prop := fnExactDoSlidesUptoRow.holds Try.pinned (OpenSpec.upto fnExactDoSlidesSpec)

/-- 'laws.FnExactPlaySteps', WHERE WHAT IT READS IS OF BULK AT MOST 1048576: true; the input reads as it did. -/
def fnExactPlayStepsUptoRow : OpenClaim := { program := "ytknjmkapabjolaa", sum := "787359fe920f3bbd73e355991ea59f1a66df4874fe036cbe36de8433d46169ac", func := "loop.example/g01194/laws.FnExactPlaySteps", spec := "fnExactPlaySteps", unfollowed := true, recurses := true, plainKeys := false, apart := false, narrowed := true }
def FnExactPlayStepsUptoSaid : Prop := fnExactPlayStepsUptoRow.holds Try.pinned (OpenSpec.upto fnExactPlayStepsSpec)

/-- 'laws.FnExactStepBetween', WHERE WHAT IT READS IS OF BULK AT MOST 1048576: true; the input reads as it did. -/
def fnExactStepBetweenUptoRow : OpenClaim := { program := "ytknjmkapabjolaa", sum := "787359fe920f3bbd73e355991ea59f1a66df4874fe036cbe36de8433d46169ac", func := "loop.example/g01194/laws.FnExactStepBetween", spec := "fnExactStepBetween", unfollowed := true, recurses := true, plainKeys := false, apart := false, narrowed := true }
def FnExactStepBetweenUptoSaid : Prop := fnExactStepBetweenUptoRow.holds Try.pinned (OpenSpec.upto fnExactStepBetweenSpec)

/-- 'laws.FnExactCountNext', WHERE WHAT IT READS IS OF BULK AT MOST 1048576: true; the input reads as it did. -/
def fnExactCountNextUptoRow : OpenClaim := { program := "ytknjmkapabjolaa", sum := "787359fe920f3bbd73e355991ea59f1a66df4874fe036cbe36de8433d46169ac", func := "loop.example/g01194/laws.FnExactCountNext", spec := "fnExactCountNext", unfollowed := true, recurses := true, plainKeys := false, apart := false, narrowed := true }
def FnExactCountNextUptoSaid : Prop := fnExactCountNextUptoRow.holds Try.pinned (OpenSpec.upto fnExactCountNextSpec)

/-- 'laws.FnExactIsTrapped', WHERE WHAT IT READS IS OF BULK AT MOST 1048576: true; the input reads as it did. -/
def fnExactIsTrappedUptoRow : OpenClaim := { program := "ytknjmkapabjolaa", sum := "787359fe920f3bbd73e355991ea59f1a66df4874fe036cbe36de8433d46169ac", func := "loop.example/g01194/laws.FnExactIsTrapped", spec := "fnExactIsTrapped", unfollowed := true, recurses := true, plainKeys := false, apart := false, narrowed := true }
def FnExactIsTrappedUptoSaid : Prop := fnExactIsTrappedUptoRow.holds Try.pinned (OpenSpec.upto fnExactIsTrappedSpec)

/-- 'laws.FnExactSlideCycle', WHERE WHAT IT READS IS OF BULK AT MOST 1048576: true; the input reads as it did. -/
def fnExactSlideCycleUptoRow : OpenClaim := { program := "ytknjmkapabjolaa", sum := "787359fe920f3bbd73e355991ea59f1a66df4874fe036cbe36de8433d46169ac", func := "loop.example/g01194/laws.FnExactSlideCycle", spec := "fnExactSlideCycle", unfollowed := true, recurses := true, plainKeys := false, apart := false, narrowed := true }
def FnExactSlideCycleUptoSaid : Prop := fnExactSlideCycleUptoRow.holds Try.pinned (OpenSpec.upto fnExactSlideCycleSpec)

/-- 'laws.FnSteps', WHERE WHAT IT READS IS OF BULK AT MOST 1048576: true; the input reads as it did. -/
def fnStepsUptoRow : OpenClaim := { program := "ytknjmkapabjolaa", sum := "787359fe920f3bbd73e355991ea59f1a66df4874fe036cbe36de8433d46169ac", func := "loop.example/g01194/laws.FnSteps", spec := "fnSteps", unfollowed := true, recurses := true, plainKeys := false, apart := false, narrowed := true }
def FnStepsUptoSaid : Prop := fnStepsUptoRow.holds Try.pinned (OpenSpec.upto fnStepsSpec)

/-- 'laws.FnCommuting', WHERE WHAT IT READS IS OF BULK AT MOST 1048576: true; the input reads as it did. -/
def fnCommutingUptoRow : OpenClaim := { program := "ytknjmkapabjolaa", sum := "787359fe920f3bbd73e355991ea59f1a66df4874fe036cbe36de8433d46169ac", func := "loop.example/g01194/laws.FnCommuting", spec := "fnCommuting", unfollowed := true, recurses := true, plainKeys := false, apart := false, narrowed := true }
def FnCommutingUptoSaid : Prop := fnCommutingUptoRow.holds Try.pinned (OpenSpec.upto fnCommutingSpec)

end Rows
end Go.Proofs.Ytknjmkapabjolaa
