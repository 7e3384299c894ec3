/-
  The contracts of the program's countMoves and DeadPlaces, for every board.
-/
import Derived.Test.YtblcojacmjbjcabOverR
import Derived.Test.YtblcojacmjbjcabOver
namespace Go.Proofs.Ytblcojacmjbjcab
open Go.RowKit Go.Shelf Plain
attribute [local go_sem] store_new Oper.semAt_some
set_option linter.unusedVariables false
set_option linter.unusedSimpArgs false

theorem countMoves_any (f : Nat → Int) (w : World) (hV : Vd f) :
    Calls Try.prog 247 #[.agg (mk 16 f)] w fun e w' => e = .returned (.int .i64 ((movL f 4).length : Int)) ∧ Below w.heap.size w w' := by
  have K1 := Blk.new w 16 f 47
  have HB := Lib.hid ((Below.refl w.heap.size w).alloc (Nat.le_refl _) (.cells (mk 16 f) 47))
  have hM := fun W => implMoves_any f W
  rw [movR_yes hV, vdO_yes hV] at hM
  have HM := Lib.hid hM
  clear hM hV
  generalize movL f 4 = L at *
  go_enter Try.func247, Try.ntmps247
  go_wp2_with ((with_reducible show wpList _ _ _ (Oper.mk _ (Op.load 47 _) _ _ _ _ :: _) _ _); refine loadB (K1) rfl rfl rfl ?_)
  refine (HM.out _).mono ?_
  rintro e w1 ⟨g, cap, rfl, ho, hb⟩
  have HB : Hid (Below w.heap.size w w1) := HB.out.trans (hb.mono HB.out.size)
  clear hb ho
  go_wp2_with fail
  go_ret
  exact ⟨rfl, HB.out⟩
end Go.Proofs.Ytblcojacmjbjcab
