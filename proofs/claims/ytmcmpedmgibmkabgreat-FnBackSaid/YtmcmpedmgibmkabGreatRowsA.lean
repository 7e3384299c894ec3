/-
  The contracts of IsRow and SlideRow, in the reference and in the program, for every row.
-/
import Derived.Test.YtmcmpedmgibmkabGreatPlainA
import Derived.Test.YtmcmpedmgibmkabGreatSpecRow
import Derived.Test.YtmcmpedmgibmkabGreatSlideLine
import Derived.Test.YtmcmpedmgibmkabGreatBaseA
namespace Go.Proofs.YtmcmpedmgibmkabGreat
open Go.RowKit Plain
attribute [local go_sem] store_new

theorem top_lit (a b c d : Int) : (#[.int .i64 a, .int .i64 b, .int .i64 c, .int .i64 d, .int .i64 0, .int .i64 0, .int .i64 0, .int .i64 0, .int .i64 0, .int .i64 0, .int .i64 0, .int .i64 0, .int .i64 0, .int .i64 0, .int .i64 0, .int .i64 0] : Array Value) = mk 16 (topF (qd a b c d)) := rfl
theorem topF_congr {f g : Nat → Int} (h : ∀ i, i < 4 → f i = g i) (j : Nat) : topF f j = topF g j := by
  unfold topF
  split
  · exact h j (by assumption)
  · rfl
theorem four_lit (f : Nat → Int) : mk 4 f = #[.int .i64 (f 0), .int .i64 (f 1), .int .i64 (f 2), .int .i64 (f 3)] := rfl
theorem implIsRow_any (f : Nat → Int) (w : World) :
    Calls Tryz.prog 76 #[.agg (mk 4 f)] w fun e w' => e = .returned (.bool (rwO f)) ∧ Below w.heap.size w w' := by
  have K := Blk.new w 4 f 24
  have HB := Lib.hid ((Below.refl w.heap.size w).alloc (Nat.le_refl _) (.cells (mk 4 f) 24))
  have HT : Hid (mk 16 (topF (qd (f 0) (f 1) (f 2) (f 3))) = mk 16 (topF f)) := by
    show _ = _
    exact mk_congr fun j _ => (topF_congr (qd_line f) j).symm
  have e4 := four_lit f
  go_enter Tryz.func76, Tryz.ntmps76
  go_wp2_with ((with_reducible show wpList _ _ _ (Oper.mk _ (Op.load 24 _) _ _ _ _ :: _) _ _); refine loadR (K) rfl rfl rfl ?_)
  rw [top_lit, HT.out]
  refine (implBoard_any _ _).mono ?_
  rintro e w1 ⟨h, hb⟩
  have HB : Hid (Below w.heap.size w w1) := HB.out.trans (hb.mono HB.out.size)
  clear hb K e4
  have h2 : e = .returned (.bool (rwO f)) := by
    rcases h with ⟨h, rfl⟩ | ⟨h, rfl⟩
    · rw [rwO_yes (topF_vd.1 h)]
    · rw [rwO_no (fun k => h (topF_vd.2 k))]
  subst h2
  clear h
  go_wp2_with fail
  go_ret
  exact ⟨rfl, HB.out⟩

end Go.Proofs.YtmcmpedmgibmkabGreat
