/-
  The contract of the program's PlacementsOf, for every board.
-/
import Derived.Test.YtlboglcpbbnbcabOverR
namespace Go.Proofs.Ytlboglcpbbnbcab
open Go.RowKit Go.Shelf Plain
attribute [local go_sem] store_new Oper.semAt_some
set_option linter.unusedVariables false
set_option linter.unusedSimpArgs false

set_option maxRecDepth 100000 in
set_option maxHeartbeats 2000000 in
theorem implPlaces_yes (f : Nat → Int) (w : World) (hV : Vd f) :
    Calls Try.prog 74 #[.agg (mk 16 f)] w fun e w' => ∃ g cap, e = .returned (.tuple #[.slice (some ⟨g, 0, none⟩) (plL (plA f)).length cap, .bool true]) ∧
      OwnsL 70 3 w' w.heap.size (.slice (some ⟨g, 0, none⟩) (plL (plA f)).length cap) (plL (plA f)) ∧ Below w.heap.size w w' := by
  refine (callsIn_wide (n := 6)).1 ?_
  obtain ⟨i0, hi, hz0, hz1, hz2⟩ := info_parts infoA
  have hle := empN_le f 16
  have K1 := ((Blk.new w 16 f 29).alloc (.cells #[] 70)).alloc (.cells #[.slice (some ⟨w.heap.size + 1, 0, none⟩) 0 0] 73)
  have KX := Boxed.new ((w.alloc (.cells (mk 16 f) 29)).alloc (.cells #[] 70)) 73 (.slice (some ⟨w.heap.size + 1, 0, none⟩) 0 0)
  have KR := (World.ownsRow_made (base := w.heap.size) (e := 70) (size := 3) (w.alloc (.cells (mk 16 f) 29)) #[] 0 (by simp) (by decide) rfl).alloc (.cells #[.slice (some ⟨w.heap.size + 1, 0, none⟩) 0 0] 73)
  have HB : Hid (Below w.heap.size w (((w.alloc (.cells (mk 16 f) 29)).alloc (.cells #[] 70)).alloc (.cells #[.slice (some ⟨w.heap.size + 1, 0, none⟩) 0 0] 73))) := (((Below.refl w.heap.size w).alloc (Nat.le_refl _) _).alloc (by simp) _).alloc (by simp; omega) _
  simp only [World.size_alloc] at KX KR
  have HV := Lib.hid hV
  clear hV
  refine callsIn_of_wp_marks Try.func74 rfl trivial ?_ rfl
  simp only [Try.ntmps74, List.size_toArray, List.length_cons, List.length_nil, Nat.reduceAdd, Nat.reduceSub, Array.replicate_succ, Array.replicate_zero, List.push_toArray, List.append_toArray, List.nil_append, List.cons_append]
  gi_wp2_with (first | ((with_reducible show wpListIn _ _ _ _ _ (Oper.mk _ (Op.load 29 _) _ _ _ _ :: _) _ _); refine loadIn (K1) rfl rfl rfl Try.underlying29 rfl sizeB ?_) | (refine ⟨trivial, ?_⟩; gi_at_call 82; refine (callsIn_wide.2 (implBoard_yes _ _ HV.out)).mono ?_; rintro e w1 ⟨rfl, hb⟩; have K1 := K1.below hb K1.lt; have KX := box_low KX hb; have KR := owns_below KR hb; have HB : Hid (Below w.heap.size w w1) := HB.out.trans (hb.mono HB.out.size); clear hb) | (refine ⟨trivial, ?_⟩; gi_at_call 112; refine (callsIn_wide.2 (replies_in _ _)).mono ?_; rintro e w' ⟨rfl, rfl⟩))
  have KB := Blk.new w1 16 f 29
  have hBn := KX.lt
  have KX := KX.alloc (.cells (mk 16 f) 29)
  have KR := World.ownsRow.alloc KR (.cells (mk 16 f) 29)
  have HB0 := HB.out.size
  have HB : Hid (Below w.heap.size w (w1.alloc (.cells (mk 16 f) 29))) := HB.out.alloc HB.out.size _
  have hsz : (w1.alloc (.cells (mk 16 f) 29)).heap.size = w1.heap.size + 1 := World.size_alloc _ _
  generalize w1.alloc (.cells (mk 16 f) 29) = W0 at *
  generalize w1.heap.size = B at *
  clear K1
  refine over_replies (n := 6) (by omega) HV.out rfl rfl KB
    (fun pre W => HoldsP f w.heap.size (w.heap.size + 1 + 1) vals pre W ∧ (Blk W B 16 f 29 ∧ Below w.heap.size W0 W)) (fun _ _ _ => False)
    (OwnFrom.and (Own.from (holdsP_own _ _ _ _) _) (OwnFrom.and (Own.from (blk_own _ _ _ _) _) (ownFrom_below (by omega) (by omega)))) (fun _ _ _ _ _ h _ _ => h)
    ⟨⟨_, KX, KR, _, _, rfl⟩, KB, Below.refl _ _⟩ (fun x b c W => Blk W b 3 (plF x.1) 70) (fun x b c => Own.from (blk_own _ _ _ _) _) ?A ?assign ?body ?done ?stop
  case assign =>
    rintro l pre x W K ⟨hH, hBk, hBl⟩ hK
    have hx := Blk.new W 3 (plF x.1) 70
    have z3 := zero3
    gi_wp2
    obtain ⟨cq, hcq⟩ : ∃ cq : Nat, cq = 0 := ⟨0, rfl⟩
    have hq := hK W.heap.size cq (W.alloc (.cells (mk 3 (plF x.1)) 70)) ((KeepsOthers.alloc _ _).from _) (Keeps2.alloc hBk.lt _)
      ⟨(holdsP_own _ _ _ _) _ _ _ none hH (World.grownBy_alloc _ _ none) (fun r e => by cases e), hBk.alloc _, hBl.alloc (by have := hBl.size; omega) _⟩ hx
    clear hK
    generalize W.alloc (.cells (mk 3 (plF x.1)) 70) = W2 at *
    generalize W.heap.size = bq at *
    exact hq
  case body =>
    rintro l pre x b c W hl hr ⟨⟨v, hv, hrow, _⟩, hBk, hBl⟩ hx hlt
    have hc := hv.cell
    have hWs := hBl.size
    have hk : (vals pre).length ≤ 64 := by rw [vals_len]; omega
    gi_wp2_with (first
      | ((with_reducible show wpListIn _ _ _ _ _ (Oper.mk _ (Op.load 70 _) _ _ _ _ :: _) _ _); refine loadIn (hx) rfl rfl rfl Try.underlying70 rfl sizeA ?_)
      | ((with_reducible show wpListIn _ _ _ _ _ (Oper.mk _ (Op.buildSlice _ _ _) _ _ _ _ :: _) _ _); refine buildInA _ rfl rfl rfl ?_)
      | (gi_at_builtin; refine appInA rfl _ _ rfl w.heap.size rfl (hrow.alloc _) W.heap.size (plF x.1) rfl (Blk.new _ _ _ _) hk (by simp; omega) ?_; intro v' w2 hown' hgrow hwh; obtain ⟨g', cap', rfl⟩ := ownsRow_succ hown'; obtain ⟨hv2, hv3, hr3, hk3, hb3⟩ := hv.appended (by decide) hrow (by omega) (by omega) hown' hgrow; have hc2 := hv2.cell; have hf2 := hv2.frozen))
    have KA := hBk.alloc (.cells (mk 3 (plF x.1)) 70)
    have hq := own_off (hrow.alloc (.cells (mk 3 (plF x.1)) 70)) KA (by decide)
    have k2 := ((Keeps2.alloc hBk.lt (.cells (mk 3 (plF x.1)) 70)).trans (keeps2_row KA (hrow.alloc _) (by decide) (by decide) hgrow)).trans (Keeps2.setCell (KA.grown hgrow hq).lt hv2 (by decide) (by omega) (.slice (some ⟨g', 0, none⟩) ((vals pre).length + 1) cap'))
    have k4 := (KA.grown hgrow hq).setOther ⟨w.heap.size + 1 + 1, 0, none⟩ (.slice (some ⟨g', 0, none⟩) ((vals pre).length + 1) cap') (by dsimp only; omega)
    rw [pl_snoc_flat, ← vals_snoc] at hr3
    have hE : (vals pre).length + 1 = (vals (pre ++ [x])).length := by rw [vals_snoc]; simp
    exact ⟨hk3.from _, k2, ⟨_, hv3, by rw [← hE]; exact hr3, _, _, by rw [← hE]⟩, k4, hBl.trans hb3⟩
  case done =>
    rintro D ys W hD hys ⟨⟨v, hv, hrow, g, cap, rfl⟩, hBk, hBl⟩ hK
    have hc := hv.cell
    have hys : vals ys = plA f := hys
    rw [hys, ← plL_len] at hc
    gi_wp2
    refine ⟨by simp, .inl ⟨_, _, rfl, run_takeDeferred hK, ?_⟩⟩
    refine ⟨_, results_tmp2 rfl _ _ _, g, cap, rfl, ?_, (HB.out.trans hBl).trans (belowK_b (w := w) (Nat.le_refl _) W D _ _ (by omega) hK rfl rfl)⟩
    have := ownsRow_putObj hrow (.deferred none) hK rfl
    rw [hys, ← plL_len] at this
    exact this
  case stop =>
    rintro D c pre W _ h _
    exact h.elim
set_option maxHeartbeats 1000000 in
theorem implPlaces_any (f : Nat → Int) (w : World) :
    Calls Try.prog 74 #[.agg (mk 16 f)] w fun e w' => ∃ g cap, e = .returned (.tuple #[.slice (some ⟨g, 0, none⟩) (plR f).length cap, .bool (vdO f)]) ∧
      OwnsL 70 3 w' w.heap.size (.slice (some ⟨g, 0, none⟩) (plR f).length cap) (plR f) ∧ Below w.heap.size w w' := by
  by_cases hV : Vd f
  · rw [plR_yes hV, vdO_yes hV]
    exact implPlaces_yes f w hV
  · rw [plR_no hV, vdO_no hV]
    have K1 := ((Blk.new w 16 f 29).alloc (.cells #[] 70)).alloc (.cells #[.slice (some ⟨w.heap.size + 1, 0, none⟩) 0 0] 73)
    have KX := Boxed.new ((w.alloc (.cells (mk 16 f) 29)).alloc (.cells #[] 70)) 73 (.slice (some ⟨w.heap.size + 1, 0, none⟩) 0 0)
    have KR := (World.ownsRow_made (base := w.heap.size) (e := 70) (size := 3) (w.alloc (.cells (mk 16 f) 29)) #[] 0 (by simp) (by decide) rfl).alloc (.cells #[.slice (some ⟨w.heap.size + 1, 0, none⟩) 0 0] 73)
    have HB : Hid (Below w.heap.size w (((w.alloc (.cells (mk 16 f) 29)).alloc (.cells #[] 70)).alloc (.cells #[.slice (some ⟨w.heap.size + 1, 0, none⟩) 0 0] 73))) := (((Below.refl w.heap.size w).alloc (Nat.le_refl _) _).alloc (by simp) _).alloc (by simp; omega) _
    simp only [World.size_alloc] at KX KR
    go_enter Try.func74, Try.ntmps74
    go_wp2_with ((with_reducible show wpList _ _ _ (Oper.mk _ (Op.load 29 _) _ _ _ _ :: _) _ _); refine loadB (K1) rfl rfl rfl ?_)
    refine (implBoard_no _ _ hV).mono ?_
    rintro e w1 ⟨rfl, hb⟩
    have KX := box_low KX hb
    have KR := owns_below KR hb
    have HB : Hid (Below w.heap.size w w1) := HB.out.trans (hb.mono HB.out.size)
    have hc := KX.cell
    clear hb hV K1
    go_wp2_with fail
    go_ret2
    exact ⟨_, _, rfl, KR, HB.out⟩
end Go.Proofs.Ytlboglcpbbnbcab
