/-
  The contracts of RowsBefore in the reference, and of IsImage in the reference and in the program, for every row.
-/
import Derived.Test.YtpiegllffkjneaaImplBefore
namespace Go.Proofs.Ytpiegllffkjneaa.Plain
theorem rbR_le (r : Nat → Int) : (rbR r).length ≤ 256 := by
  by_cases h : VdRow r
  · rw [rbR_yes h]; exact befS_le h
  · rw [rbR_no h]; exact Nat.zero_le _
theorem rbR_all (r : Nat → Int) : ∀ x, x ∈ rbR r → x.length = 4 := by
  by_cases h : VdRow r
  · rw [rbR_yes h]; exact befS_all 16
  · rw [rbR_no h]; intro x hx; cases hx
/-- What IsImage returns. -/
noncomputable def imR (r : Nat → Int) : Bool := decide (0 < (rbR r).length)
theorem imR_int (r : Nat → Int) : decide (0 < (rbR r).length) = imR r := rfl
theorem imR_no {r : Nat → Int} (h : ¬ VdRow r) : imR r = false := by unfold imR; rw [rbR_no h]; rfl
end Go.Proofs.Ytpiegllffkjneaa.Plain
namespace Go.Proofs.Ytpiegllffkjneaa
open Go.RowKit Plain
attribute [local go_sem] store_new
set_option linter.unusedVariables false
set_option linter.unusedSimpArgs false

theorem specBefore_any (r : Nat → Int) (w : World) :
    Calls Try.prog 59 #[.agg (mk 4 r)] w fun e w' => ∃ g cap, e = .returned (.tuple #[.slice (some ⟨g, 0, none⟩) (rbR r).length cap, .bool (rwO r)]) ∧
      OwnsL 24 4 w' w.heap.size (.slice (some ⟨g, 0, none⟩) (rbR r).length cap) (rbR r) ∧ Below w.heap.size w w' := by
  have K1 := Blk.new w 4 r 24
  have HB := Lib.hid ((Below.refl w.heap.size w).alloc (Nat.le_refl _) (.cells (mk 4 r) 24))
  have HIR := Lib.hid (l4Row_any r)
  by_cases hV : VdRow r
  · rw [rbR_yes hV, rwO_yes hV]
    have hO := rwO_yes hV
    have HV := Lib.hid hV
    clear hV
    go_enter Try.func59, Try.ntmps59
    go_wp2_with ((with_reducible show wpList _ _ _ (Oper.mk _ (Op.load 24 _) _ _ _ _ :: _) _ _); refine loadR (K1) rfl rfl rfl ?_)
    refine (HIR.out _).mono ?_
    rw [hO]
    clear hO HIR
    rintro e w1 ⟨rfl, hb⟩
    have K1 := K1.below hb K1.lt
    have HB : Hid (Below w.heap.size w w1) := HB.out.trans (hb.mono HB.out.size)
    clear hb
    go_wp2_with ((with_reducible show wpList _ _ _ (Oper.mk _ (Op.load 24 _) _ _ _ _ :: _) _ _); refine loadR (K1) rfl rfl rfl ?_)
    refine (l4Before_any r _ HV.out).mono ?_
    rintro e w2 ⟨g, cap, rfl, ho, hb⟩
    have HO : Hid (OwnsL 24 4 w2 w.heap.size (.slice (some ⟨g, 0, none⟩) (befS r 16).length cap) (befS r 16)) := OwnsL.wide ho HB.out.size
    have HB : Hid (Below w.heap.size w w2) := HB.out.trans (hb.mono HB.out.size)
    clear ho hb
    go_wp2_with fail
    go_ret2
    exact ⟨g, cap, rfl, HO.out, HB.out⟩
  · rw [rbR_no hV, rwO_no hV]
    have hO := rwO_no hV
    go_enter Try.func59, Try.ntmps59
    go_wp2_with ((with_reducible show wpList _ _ _ (Oper.mk _ (Op.load 24 _) _ _ _ _ :: _) _ _); refine loadR (K1) rfl rfl rfl ?_)
    refine (HIR.out _).mono ?_
    rw [hO]
    clear hO HIR hV
    rintro e w1 ⟨rfl, hb⟩
    have HB : Hid (Below w.heap.size w w1) := HB.out.trans (hb.mono HB.out.size)
    have HO : Hid (OwnsL 24 4 (w1.alloc (.cells #[] 24)) w.heap.size (.slice (some ⟨w1.heap.size, 0, none⟩) 0 0) []) := OwnsL.made w1 HB.out.size
    have HB : Hid (Below w.heap.size w (w1.alloc (.cells #[] 24))) := HB.out.alloc HB.out.size _
    clear hb
    go_wp2_with fail
    go_ret2
    exact ⟨_, _, rfl, HO.out, HB.out⟩

theorem implImage_any (r : Nat → Int) (w : World) :
    Calls Try.prog 62 #[.agg (mk 4 r)] w fun e w' => e = .returned (.tuple #[.bool (imR r), .bool (rwO r)]) ∧ Below w.heap.size w w' := by
  have K1 := Blk.new w 4 r 24
  have HB := Lib.hid ((Below.refl w.heap.size w).alloc (Nat.le_refl _) (.cells (mk 4 r) 24))
  have hI := imR_int r
  go_enter Try.func62, Try.ntmps62
  go_wp2_with ((with_reducible show wpList _ _ _ (Oper.mk _ (Op.load 24 _) _ _ _ _ :: _) _ _); refine loadR (K1) rfl rfl rfl ?_)
  refine (implBefore_any r _).mono ?_
  rintro e w1 ⟨g, cap, rfl, ho, hb⟩
  have HB : Hid (Below w.heap.size w w1) := HB.out.trans (hb.mono HB.out.size)
  clear ho hb K1
  generalize (rbR r).length = n at *
  go_wp2_with fail
  go_ret2
  exact ⟨rfl, HB.out⟩
theorem specImage_any (r : Nat → Int) (w : World) :
    Calls Try.prog 63 #[.agg (mk 4 r)] w fun e w' => e = .returned (.tuple #[.bool (imR r), .bool (rwO r)]) ∧ Below w.heap.size w w' := by
  have K1 := Blk.new w 4 r 24
  have HB := Lib.hid ((Below.refl w.heap.size w).alloc (Nat.le_refl _) (.cells (mk 4 r) 24))
  have HIR := Lib.hid (l4Row_any r)
  by_cases hV : VdRow r
  · rw [rwO_yes hV]
    have hO := rwO_yes hV
    have hI := imR_int r
    rw [rbR_yes hV] at hI
    have HV := Lib.hid hV
    clear hV
    go_enter Try.func63, Try.ntmps63
    go_wp2_with ((with_reducible show wpList _ _ _ (Oper.mk _ (Op.load 24 _) _ _ _ _ :: _) _ _); refine loadR (K1) rfl rfl rfl ?_)
    refine (HIR.out _).mono ?_
    rw [hO]
    clear hO HIR
    rintro e w1 ⟨rfl, hb⟩
    have K1 := K1.below hb K1.lt
    have HB : Hid (Below w.heap.size w w1) := HB.out.trans (hb.mono HB.out.size)
    clear hb
    go_wp2_with ((with_reducible show wpList _ _ _ (Oper.mk _ (Op.load 24 _) _ _ _ _ :: _) _ _); refine loadR (K1) rfl rfl rfl ?_)
    refine (l4Before_any r _ HV.out).mono ?_
    rintro e w2 ⟨g, cap, rfl, ho, hb⟩
    have HB : Hid (Below w.heap.size w w2) := HB.out.trans (hb.mono HB.out.size)
    clear ho hb
    generalize (befS r 16).length = n at *
    go_wp2_with fail
    go_ret2
    exact ⟨rfl, HB.out⟩
  · rw [imR_no hV, rwO_no hV]
    have hO := rwO_no hV
    go_enter Try.func63, Try.ntmps63
    go_wp2_with ((with_reducible show wpList _ _ _ (Oper.mk _ (Op.load 24 _) _ _ _ _ :: _) _ _); refine loadR (K1) rfl rfl rfl ?_)
    refine (HIR.out _).mono ?_
    rw [hO]
    clear hO HIR hV
    rintro e w1 ⟨rfl, hb⟩
    have HB : Hid (Below w.heap.size w w1) := HB.out.trans (hb.mono HB.out.size)
    clear hb
    go_wp2_with fail
    go_ret2
    exact ⟨rfl, HB.out⟩
end Go.Proofs.Ytpiegllffkjneaa
