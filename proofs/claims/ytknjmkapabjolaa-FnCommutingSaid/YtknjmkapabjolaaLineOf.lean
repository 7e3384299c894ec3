/-
  The contracts of LineOf, in the reference and in the program, for every board and every two numbers.
-/
import Derived.Test.YtknjmkapabjolaaNumbers
import Derived.Test.YtknjmkapabjolaaSlideTo
import Derived.Test.YtknjmkapabjolaaBaseA
import Derived.Test.YtknjmkapabjolaaPlainA
import Derived.Deep.RegionWith
namespace Go.Proofs.Ytknjmkapabjolaa
open Go.RowKit Plain
attribute [local go_sem] store_new

theorem view_part (f : Nat → Int) (d i : Nat) : mk 4 (fun c => viewF f d (i * 4 + c)) = mk 4 (lineF f d i) := mk_congr fun _ hc => viewF_line f d i hc
theorem fieldB (g : Nat → Int) (w : World) : (Instr.field 29 (.agg (mk 16 g)) 0).run Try.prog w = .ok (.agg (mk 16 g)) w := by
  have hagg : (isAgg 23).run Try.prog w = .ok true w := by
    unfold isAgg
    rw [Sem.run_bind, run_underlying Try.underlying23 w]
    simp
  cases hq : Try.prog.info? 23 with
  | none => have := sizeG; simp [hq] at this
  | some q =>
    have hs : q.size = 16 := by have := sizeG; simpa [hq] using this
    have he : (mk 16 g).extract 0 16 = mk 16 g := by have := mk_extract (n := 16) g 0 16 (by omega); simpa using this
    simp [Instr.field, run_underlying Try.underlying29, part, hagg, sizeOf, typeInfo, hq, hs, asAgg, he]
theorem fieldV0 (w : World) : (Instr.field 136 (.agg #[.func (.func 110) #[] #[], .func (.func 110) #[] #[]]) 0).run Try.prog w = .ok (.func (.func 110) #[] #[]) w := by kernel_rfl
theorem fieldV1 (w : World) : (Instr.field 136 (.agg #[.func (.func 115) #[] #[], .func (.func 115) #[] #[]]) 0).run Try.prog w = .ok (.func (.func 115) #[] #[]) w := by kernel_rfl
theorem fieldV2 (w : World) : (Instr.field 136 (.agg #[.func (.func 114) #[] #[], .func (.func 114) #[] #[]]) 0).run Try.prog w = .ok (.func (.func 114) #[] #[]) w := by kernel_rfl
theorem fieldV3 (w : World) : (Instr.field 136 (.agg #[.func (.func 111) #[] #[], .func (.func 113) #[] #[]]) 0).run Try.prog w = .ok (.func (.func 111) #[] #[]) w := by kernel_rfl
end Go.Proofs.Ytknjmkapabjolaa
