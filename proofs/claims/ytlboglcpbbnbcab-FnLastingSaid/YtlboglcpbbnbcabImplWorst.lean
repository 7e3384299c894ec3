/-
  The contract of the program's WorstTile, for every board.
-/
import Derived.Test.YtlboglcpbbnbcabLeastR
import Derived.Test.YtlboglcpbbnbcabImplDead
namespace Go.Proofs.Ytlboglcpbbnbcab
open Go.RowKit Plain
attribute [local go_sem] store_new
set_option linter.unusedVariables false
set_option linter.unusedSimpArgs false
theorem mk_plF0 : (mk 3 (plF (0, 0))) = mk 3 fun _ => 0 := mk_congr fun j _ => plF_zero j
theorem countMoves_enters : ∀ args w, (callFunc 115 args).run Try.prog w = .ok (.enter 115 args) w := enters_of Try.func115 (by kernel_rfl) rfl
theorem pl_vd {f : Nat → Int} {p : Nat × Nat} (hV : Vd f) (h : PlOk f p) : Vd (plB f p) := plB_vd hV h
set_option maxHeartbeats 1000000 in
theorem implWorst_any (f : Nat → Int) (w : World) :
    Calls Try.prog 62 #[.agg (mk 16 f)] w fun e w' => e = .returned (.tuple #[.agg (mk 3 (plF (wtR f).p)), .int .i64 (wtR f).v, .bool (wtR f).ok]) ∧ Below w.heap.size w w' := by
  have z3 := zero3
  have K1 := (Blk.new w 16 f 29).alloc (.cells (mk 3 fun _ => 0) 70)
  have K2 := Blk.new (w.alloc (.cells (mk 16 f) 29)) 3 (fun _ => 0) 70
  have HB := Lib.hid (((Below.refl w.heap.size w).alloc (Nat.le_refl _) (.cells (mk 16 f) 29)).alloc (by simp) (.cells (mk 3 fun _ => 0) 70))
  simp only [World.size_alloc] at K2
  by_cases hV : Vd f
  · rw [wtR_yes hV]
    have HL := Lib.hid (fun W => leastReply_any f (mvC f) 115 #[] W hV countMoves_enters (fun p W' hp _ => countMoves_any (plB f p) W' (pl_vd hV hp)))
    have HV := Lib.hid hV
    clear hV
    generalize lsF (mvC f) (plA f) = S at *
    go_enter Try.func62, Try.ntmps62
    go_wp2_with ((with_reducible show wpList _ _ _ (Oper.mk _ (Op.load 29 _) _ _ _ _ :: _) _ _); refine loadB (K1) rfl rfl rfl ?_)
    refine (implBoard_yes _ _ HV.out).mono ?_
    rintro e w1 ⟨rfl, hb⟩
    have K1 := K1.below hb K1.lt
    have K2 := K2.below hb K2.lt
    have HB : Hid (Below w.heap.size w w1) := HB.out.trans (hb.mono HB.out.size)
    clear hb
    go_wp2_with ((with_reducible show wpList _ _ _ (Oper.mk _ (Op.load 29 _) _ _ _ _ :: _) _ _); refine loadB (K1) rfl rfl rfl ?_)
    refine (HL.out _).mono ?_
    rintro e w2 ⟨rfl, hb⟩
    have K2 := K2.below hb K2.lt
    have HB : Hid (Below w.heap.size w w2) := HB.out.trans (hb.mono HB.out.size)
    clear hb K1 HL
    go_wp2_with ((with_reducible show wpList _ _ _ (Oper.mk _ (Op.store 70 _ _) _ _ _ _ :: _) _ _); refine storeA (K2) rfl rfl rfl rfl ?_)
    try simp only [Exit.inBlock, Exit.then]
    exact retcttA (K2.row 3 _) rfl rfl rfl ⟨rfl, below_setRow HB.out (by omega) _⟩
  · rw [wtR_no hV]
    have HV := Lib.hid hV
    have hz := mk_plF0
    clear hV
    show Calls _ _ _ _ fun e w' => e = .returned (.tuple #[.agg (mk 3 (plF (0, 0))), .int .i64 0, .bool false]) ∧ _
    rw [hz]
    clear hz
    go_enter Try.func62, Try.ntmps62
    go_wp2_with ((with_reducible show wpList _ _ _ (Oper.mk _ (Op.load 29 _) _ _ _ _ :: _) _ _); refine loadB (K1) rfl rfl rfl ?_)
    refine (implBoard_no _ _ HV.out).mono ?_
    rintro e w1 ⟨rfl, hb⟩
    have K2 := K2.below hb K2.lt
    have HB : Hid (Below w.heap.size w w1) := HB.out.trans (hb.mono HB.out.size)
    clear hb K1
    go_wp2_with ((with_reducible show wpList _ _ _ (Oper.mk _ (Op.store 70 _ _) _ _ _ _ :: _) _ _); refine storeA (K2) rfl rfl rfl rfl ?_)
    try simp only [Exit.inBlock, Exit.then]
    exact retcttA (K2.row 3 _) rfl rfl rfl ⟨rfl, below_setRow HB.out (by omega) _⟩
end Go.Proofs.Ytlboglcpbbnbcab
