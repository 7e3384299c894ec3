/-
  The contract of the reference's FormsOf, for every board.
-/
import Derived.Test.YtpiegllffkjneaaSpecAdd
import Derived.Test.YtpiegllffkjneaaSpecMade
import Derived.Test.YtpiegllffkjneaaPlainA
import Derived.Test.YtpiegllffkjneaaRowsKit
import Derived.Test.YtpiegllffkjneaaOver
namespace Go.Proofs.Ytpiegllffkjneaa
open Go.RowKit Plain
attribute [local go_sem] store_new
set_option linter.unusedVariables false

set_option maxHeartbeats 1000000 in
set_option maxRecDepth 20000 in
theorem specFormsOf_any (f : Nat → Int) (w : World) :
    Calls Try.prog 20 #[.agg (mk 16 f)] w fun e w' => ∃ g cap, e = .returned (.tuple #[.slice (some ⟨g, 0, none⟩) (foR f).length cap, .bool (vdO f)]) ∧
      OwnsL 27 16 w' w.heap.size (.slice (some ⟨g, 0, none⟩) (foR f).length cap) (foR f) ∧ Below w.heap.size w w' := by
  have K1 := (Blk.new w 16 f 27).alloc (.cells #[] 27)
  have HB := Lib.hid (((Below.refl w.heap.size w).alloc (Nat.le_refl _) (.cells (mk 16 f) 27)).alloc (by simp) (.cells #[] 27))
  have HO : OwnsL 27 16 ((w.alloc (.cells (mk 16 f) 27)).alloc (.cells #[] 27)) (w.heap.size + 1) (.slice (some ⟨w.heap.size + 1, 0, none⟩) 0 0) [] := by
    have := OwnsL.made (t := 27) (m := 16) (b := w.heap.size + 1) (w.alloc (.cells (mk 16 f) 27)) (by simp)
    simp only [World.size_alloc] at this
    exact this
  have HOx := Lib.hid HO
  clear HO
  by_cases hV : Vd f
  · rw [foR_yes hV, vdO_yes hV]
    have HV := Lib.hid hV
    clear hV
    go_enter Try.func20, Try.ntmps20
    go_wp2_with ((with_reducible show wpList _ _ _ (Oper.mk _ (Op.load 27 _) _ _ _ _ :: _) _ _); refine loadB (K1) rfl rfl rfl ?_)
    refine (l2Board_yes _ _ HV.out).mono ?_
    rintro e w1 ⟨rfl, hb⟩
    have K1 := K1.below hb K1.lt
    have HO : Hid (OwnsL 27 16 w1 (w.heap.size + 1) (.slice (some ⟨w.heap.size + 1, 0, none⟩) 0 0) []) := HOx.out.below hb
    have HB : Hid (Below w.heap.size w w1) := HB.out.trans (hb.mono HB.out.size)
    clear hb HOx
    go_wp2_with fail
    go_loopg [4, 5] 8 (fun gk s4 s5 wr => ∃ (k : Nat) (v : Value), k + gk = 8 ∧ s5 = .int .i64 k ∧ v = s4 ∧ (∃ gg cap, v = .slice (some ⟨gg, 0, none⟩) (insF f k).length cap) ∧ Hid (OwnsL 27 16 wr (w.heap.size + 1) v (insF f k)) ∧ Blk wr w.heap.size 16 f 27 ∧ Hid (Below w.heap.size w wr))
    case atStart => exact ⟨0, _, by omega, rfl, rfl, ⟨_, _, rfl⟩, HO, K1, HB⟩
    case round =>
      obtain ⟨k, v, hkg, rfl, rfl, ⟨gg, cap, hv⟩, ho, k1, hb⟩ := hrel
      subst hv
      clear K1 HB HO
      cases gk with
      | zero =>
        have hk : ¬ ((k : Int) < 8) := by omega
        obtain rfl : k = 8 := by omega
        clear hkg hk
        go_wp2_with fail
        go_ret2
        exact ⟨gg, cap, rfl, ho.out.wide (by omega), hb.out⟩
      | succ g =>
        have hk8 : (k : Int) < 8 := by omega
        have hk9 : k < 8 := by omega
        go_wp2_with ((with_reducible show wpList _ _ _ (Oper.mk _ (Op.load 27 _) _ _ _ _ :: _) _ _); refine loadB (k1) rfl rfl rfl ?_)
        refine (l3Made_any f k _ hk9).mono ?_
        rintro e w3 ⟨rfl, hb3⟩
        have k1 := k1.below hb3 k1.lt
        have ho : Hid (OwnsL 27 16 w3 (w.heap.size + 1) (.slice (some ⟨gg, 0, none⟩) (insF f k).length cap) (insF f k)) := ho.out.below hb3
        have hb : Hid (Below w.heap.size w w3) := hb.out.trans (hb3.mono hb.out.size)
        clear hb3
        go_wp2_with fail
        refine (l3Add_any gg cap (w.heap.size + 1) (insF f k) (formF f k) _ (insF_len f k) (by have := insF_le f k; omega) ho.out).mono ?_
        rintro e w4 ⟨g', cap', rfl, ho4, hb4⟩
        have HO4 : Hid (OwnsL 27 16 w4 (w.heap.size + 1) (.slice (some ⟨g', 0, none⟩) (insF f (k + 1)).length cap') (insF f (k + 1))) := ho4
        have HE : Hid ((insL (lt 16) (insF f k) (cl 16 (formF f k))).length = (insF f (k + 1)).length) := rfl
        have k1 := k1.below hb4 k1.lt
        have hb : Hid (Below w.heap.size w w4) := hb.out.trans (hb4.mono hb.out.size)
        clear hb4 ho4 ho
        rw [HE.out]
        generalize hL : insF f (k + 1) = L4 at *
        go_wp2_with fail
        go_roundg g
        case rel => exact ⟨k + 1, _, by omega, by go_num, rfl, ⟨g', cap', by rw [hL]⟩, by rw [hL]; exact HO4, k1, hb⟩
        case measure => omega
  · rw [foR_no hV, vdO_no hV]
    have HV := Lib.hid hV
    clear hV
    go_enter Try.func20, Try.ntmps20
    go_wp2_with ((with_reducible show wpList _ _ _ (Oper.mk _ (Op.load 27 _) _ _ _ _ :: _) _ _); refine loadB (K1) rfl rfl rfl ?_)
    refine (l2Board_no _ _ HV.out).mono ?_
    rintro e w1 ⟨rfl, hb⟩
    have HO : Hid (OwnsL 27 16 w1 (w.heap.size + 1) (.slice (some ⟨w.heap.size + 1, 0, none⟩) 0 0) []) := HOx.out.below hb
    have HB : Hid (Below w.heap.size w w1) := HB.out.trans (hb.mono HB.out.size)
    clear hb HOx
    go_wp2_with fail
    go_ret2
    exact ⟨_, _, rfl, HO.out.wide (by omega), HB.out⟩
end Go.Proofs.Ytpiegllffkjneaa
