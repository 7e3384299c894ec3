/-
  The contract of the program's LessBoard, for every two boards.
-/
import Derived.Test.YtpiegllffkjneaaBefore
import Derived.Test.YtpiegllffkjneaaBaseA
import Derived.Test.YtpiegllffkjneaaPlainA
import Derived.Deep.QuietTactic
import Derived.BigQuiet
import Derived.Deep.RegionHeld3
namespace Go.Proofs.Ytpiegllffkjneaa
open Go.RowKit Plain
attribute [local go_sem] store_new



theorem heldL_step {w W w6 : World} {b c n m : Nat} {f g : Nat → Int} {t u : TypeId} (h : Blk W b n f t ∧ Blk W c m g u ∧ Below w.heap.size w W) (hb : Below W.heap.size W w6) : Blk w6 b n f t ∧ Blk w6 c m g u ∧ Below w.heap.size w w6 :=
  ⟨h.1.below hb h.1.lt, h.2.1.below hb h.2.1.lt, h.2.2.trans (hb.mono h.2.2.size)⟩
set_option maxHeartbeats 2000000 in
set_option maxRecDepth 20000 in
theorem implLess_any (f g : Nat → Int) (w : World) :
    Calls Try.prog 50 #[.agg (mk 16 f), .agg (mk 16 g)] w fun e w' => e = .returned (.tuple #[.bool (lessR f g), .bool (lessO f g)]) ∧ Below w.heap.size w w' := by
  have z4 := zero4
  have iG := idxG
  have K1 := (Blk.new w 16 f 27).alloc (.cells (mk 16 g) 27)
  have K2 := Blk.new (w.alloc (.cells (mk 16 f) 27)) 16 g 27
  have HB := Lib.hid (((Below.refl w.heap.size w).alloc (Nat.le_refl _) (.cells (mk 16 f) 27)).alloc (by simp) (.cells (mk 16 g) 27))
  simp only [World.size_alloc] at K2
  by_cases hV : Vd f
  · by_cases hW : Vd g
    · obtain ⟨y1, y2⟩ := less_yes hV hW
      rw [y1, y2]
      clear y1 y2
      have HV := Lib.hid hV
      have HW := Lib.hid hW
      clear hV hW
      go_enter Try.func50, Try.ntmps50
      go_wp2_with ((with_reducible show wpList _ _ _ (Oper.mk _ (Op.load 27 _) _ _ _ _ :: _) _ _); refine loadB (K1) rfl rfl rfl ?_)
      refine (implBoard_yes _ _ HV.out).mono ?_
      rintro e w1 ⟨rfl, hb2⟩
      have K1 := K1.below hb2 K1.lt
      have K2 := K2.below hb2 K2.lt
      have HB : Hid (Below w.heap.size w w1) := HB.out.trans (hb2.mono HB.out.size)
      clear hb2
      go_wp2_with ((with_reducible show wpList _ _ _ (Oper.mk _ (Op.load 27 _) _ _ _ (some _) :: _) _ _); refine loadgB (K2) rfl rfl rfl ?_)
      refine (implBoard_yes _ _ HW.out).mono ?_
      rintro e w2 ⟨rfl, hb2⟩
      have K1 := K1.below hb2 K1.lt
      have K2 := K2.below hb2 K2.lt
      have HB : Hid (Below w.heap.size w w2) := HB.out.trans (hb2.mono HB.out.size)
      clear hb2
      go_wp2_with ((with_reducible show wpList _ _ _ (Oper.mk _ (Op.load 25 _) _ _ _ _ :: _) _ _); refine loadG (K1) rfl rfl rfl ?_)
      go_loopg [18] 4 (fun n s18 wr => ∃ r : Nat, r + n = 4 ∧ s18 = .int .i64 r ∧ (∀ i, i < r * 4 → f i = g i) ∧ Blk wr (w.heap.size + 1) 16 g 27 ∧ Hid (Below w.heap.size w wr))
      case atStart => exact ⟨0, by omega, rfl, fun i hi => by omega, K2, HB⟩
      case round =>
        obtain ⟨r, hrg, rfl, he, k2, hb⟩ := hrel
        have HE := Lib.hid he
        clear he
        cases gk with
        | zero =>
          have hr : ¬ ((r : Int) < 4) := by omega
          obtain rfl : r = 4 := by omega
          have HL := Lib.hid (lessB_none HE.out)
          clear hrg hr
          go_wp2_with fail
          go_ret2
          exact ⟨by rw [HL.out]; rfl, hb.out⟩
        | succ n =>
          have hr4 : (r : Int) < 4 := by omega
          have hr0 : (0 : Int) ≤ (r : Int) := by omega
          have hr5 : r < 4 := by omega
          have k2 := k2.alloc (.cells (mk 4 fun c => f (r * 4 + c)) 24)
          have k1 := Blk.new wr 4 (fun c => f (r * 4 + c)) 24
          have HB4 : Hid (Below w.heap.size w (wr.alloc (.cells (mk 4 fun c => f (r * 4 + c)) 24))) := hb.out.alloc hb.out.size _
          have hs1 := k2.lt
          clear hb
          go_wp2_with fail
          generalize wr.alloc (.cells (mk 4 fun c => f (r * 4 + c)) 24) = w4 at *
          have a0 := fun (W : World) (q : Blk W wr.heap.size 4 (fun c => f (r * 4 + c)) 24) => q.cell (i := 0) (by omega)
          have a1 := fun (W : World) (q : Blk W wr.heap.size 4 (fun c => f (r * 4 + c)) 24) => q.cell (i := 1) (by omega)
          have a2 := fun (W : World) (q : Blk W wr.heap.size 4 (fun c => f (r * 4 + c)) 24) => q.cell (i := 2) (by omega)
          have a3 := fun (W : World) (q : Blk W wr.heap.size 4 (fun c => f (r * 4 + c)) 24) => q.cell (i := 3) (by omega)
          have ae : (#[.int .i64 (f (r * 4 + 0)), .int .i64 (f (r * 4 + 1)), .int .i64 (f (r * 4 + 2)), .int .i64 (f (r * 4 + 3))] : Array Value) = mk 4 (fun c => f (r * 4 + c)) := rfl
          have ae' : (#[.int .i64 (f (r * 4)), .int .i64 (f (r * 4 + 1)), .int .i64 (f (r * 4 + 2)), .int .i64 (f (r * 4 + 3))] : Array Value) = mk 4 (fun c => f (r * 4 + c)) := rfl
          have d0 := fun (W : World) (q : Blk W (w.heap.size + 1) 16 g 27) => q.cell (i := r * 4) (by omega)
          have d1 := fun (W : World) (q : Blk W (w.heap.size + 1) 16 g 27) => q.cell (i := r * 4 + 1) (by omega)
          have d2 := fun (W : World) (q : Blk W (w.heap.size + 1) 16 g 27) => q.cell (i := r * 4 + 2) (by omega)
          have d3 := fun (W : World) (q : Blk W (w.heap.size + 1) 16 g 27) => q.cell (i := r * 4 + 3) (by omega)
          have de : (#[.int .i64 (g (r * 4)), .int .i64 (g (r * 4 + 1)), .int .i64 (g (r * 4 + 2)), .int .i64 (g (r * 4 + 3))] : Array Value) = mk 4 (fun c => g (r * 4 + c)) := rfl
          have iN := neqR
          go_region_held3 (fun w' => Blk w' wr.heap.size 4 (fun c => f (r * 4 + c)) 24 ∧ Blk w' (w.heap.size + 1) 16 g 27 ∧ Below w.heap.size w w') (first | exact ⟨k1.drew, k2.drew, HB4.out.drew⟩ | assumption) (fail)
          all_goals
            clear a0 a1 a2 a3 ae ae' d0 d1 d2 d3 de iN
            skip
          by_cases hs : sameR (fun c => f (r * 4 + c)) (fun c => g (r * 4 + c)) = true
          · rw [hs]
            have HS := Lib.hid (sameR_iff.1 hs)
            clear hs
            go_wp2_with fail
            go_roundg n
            case rel => exact ⟨r + 1, by omega, by go_num, fun i hi => by
              by_cases l : i < r * 4
              · exact HE.out i l
              · have := HS.out (i - r * 4) (by omega)
                simp only [show r * 4 + (i - r * 4) = i by omega] at this
                exact this, And.left (And.right (by assumption)), And.right (And.right (by assumption))⟩
            case measure => omega
          · have hs : sameR (fun c => f (r * 4 + c)) (fun c => g (r * 4 + c)) = false := by simpa using hs
            rw [hs]
            obtain ⟨c, hc, hi, hd⟩ := row_first hs
            have hl := lessB_at (f := f) (g := g) (j := r * 4 + c) (by omega) (fun i hi2 => by
              by_cases l : i < r * 4
              · exact HE.out i l
              · have := hi (i - r * 4) (by omega)
                simp only [show r * 4 + (i - r * 4) = i by omega] at this
                exact this) hd
            clear hs
            rcases (by omega : f (r * 4 + c) < g (r * 4 + c) ∨ g (r * 4 + c) < f (r * 4 + c)) with hx | hx
            · have HL : Hid (lessB f g = true) := by
                show _ = _
                rw [hl]; simpa using hx
              clear hl hd
              have HC := Lib.hid hc
              have HI := Lib.hid hi
              have HX := Lib.hid hx
              clear hc hi hx
              go_wp2_with fail
              go_region_held3 (fun w' => Blk w' wr.heap.size 4 (fun c => f (r * 4 + c)) 24 ∧ Blk w' (w.heap.size + 1) 16 g 27 ∧ Below w.heap.size w w') (first | exact ⟨Blk.drew (And.left (by assumption)), Blk.drew (And.left (And.right (by assumption))), Below.drew (And.right (And.right (by assumption)))⟩ | assumption) (first | (go_at_call 124; refine (compare_lt _ 0 _ (r * 4) _ _ (fun c => f (r * 4 + c)) (fun c => g (r * 4 + c)) c _ HC.out HI.out HX.out (fun j hj => by rw [Nat.zero_add]; exact Blk.cell (And.left (by assumption)) hj) (fun j hj => Blk.cell (And.left (And.right (by assumption))) (by omega))).mono ?_; rintro e w6 ⟨rfl, rfl⟩) | fail)
              all_goals
                go_wp2_with fail
                go_ret2
                exact ⟨by rw [HL.out]; rfl, And.right (And.right (by assumption))⟩
            · have HL : Hid (lessB f g = false) := by
                show _ = _
                rw [hl]; simp; omega
              clear hl hd
              have HC := Lib.hid hc
              have HI := Lib.hid hi
              have HX := Lib.hid hx
              clear hc hi hx
              go_wp2_with fail
              go_region_held3 (fun w' => Blk w' wr.heap.size 4 (fun c => f (r * 4 + c)) 24 ∧ Blk w' (w.heap.size + 1) 16 g 27 ∧ Below w.heap.size w w') (first | exact ⟨Blk.drew (And.left (by assumption)), Blk.drew (And.left (And.right (by assumption))), Below.drew (And.right (And.right (by assumption)))⟩ | assumption) (first | (go_at_call 124; refine (compare_gt _ 0 _ (r * 4) _ _ (fun c => f (r * 4 + c)) (fun c => g (r * 4 + c)) c _ HC.out HI.out HX.out (fun j hj => by rw [Nat.zero_add]; exact Blk.cell (And.left (by assumption)) hj) (fun j hj => Blk.cell (And.left (And.right (by assumption))) (by omega))).mono ?_; rintro e w6 ⟨rfl, rfl⟩) | fail)
              all_goals
                go_wp2_with fail
                go_ret2
                exact ⟨by rw [HL.out]; rfl, And.right (And.right (by assumption))⟩
    · obtain ⟨y1, y2⟩ := less_no2 (f := f) hW
      rw [y1, y2]
      clear y1 y2
      have HV := Lib.hid hV
      have HW := Lib.hid hW
      clear hV hW
      go_enter Try.func50, Try.ntmps50
      go_wp2_with ((with_reducible show wpList _ _ _ (Oper.mk _ (Op.load 27 _) _ _ _ _ :: _) _ _); refine loadB (K1) rfl rfl rfl ?_)
      refine (implBoard_yes _ _ HV.out).mono ?_
      rintro e w1 ⟨rfl, hb2⟩
      have K1 := K1.below hb2 K1.lt
      have K2 := K2.below hb2 K2.lt
      have HB : Hid (Below w.heap.size w w1) := HB.out.trans (hb2.mono HB.out.size)
      clear hb2
      go_wp2_with ((with_reducible show wpList _ _ _ (Oper.mk _ (Op.load 27 _) _ _ _ (some _) :: _) _ _); refine loadgB (K2) rfl rfl rfl ?_)
      refine (implBoard_no _ _ HW.out).mono ?_
      rintro e w2 ⟨rfl, hb2⟩
      have K1 := K1.below hb2 K1.lt
      have K2 := K2.below hb2 K2.lt
      have HB : Hid (Below w.heap.size w w2) := HB.out.trans (hb2.mono HB.out.size)
      clear hb2
      go_wp2_with fail
      go_ret2
      exact ⟨rfl, HB.out⟩
  · obtain ⟨y1, y2⟩ := less_no1 (g := g) hV
    rw [y1, y2]
    clear y1 y2
    have HV := Lib.hid hV
    clear hV
    go_enter Try.func50, Try.ntmps50
    go_wp2_with ((with_reducible show wpList _ _ _ (Oper.mk _ (Op.load 27 _) _ _ _ _ :: _) _ _); refine loadB (K1) rfl rfl rfl ?_)
    refine (implBoard_no _ _ HV.out).mono ?_
    rintro e w1 ⟨rfl, hb2⟩
    have K1 := K1.below hb2 K1.lt
    have K2 := K2.below hb2 K2.lt
    have HB : Hid (Below w.heap.size w w1) := HB.out.trans (hb2.mono HB.out.size)
    clear hb2
    go_wp2_with fail
    go_ret2
    exact ⟨rfl, HB.out⟩
end Go.Proofs.Ytpiegllffkjneaa
