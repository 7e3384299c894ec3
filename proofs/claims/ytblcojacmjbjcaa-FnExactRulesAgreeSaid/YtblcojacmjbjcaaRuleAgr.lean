/-
  The contracts of RulesAgree and CommonMoves, in the reference and in the program, for every board and every number.
-/
import Derived.Test.YtblcojacmjbjcaaRuleMv
import Derived.Test.YtblcojacmjbjcaaMergers
import Derived.Test.YtblcojacmjbjcaaImplSlideBoard
import Derived.Test.YtblcojacmjbjcaaRuleSet
namespace Go.Proofs.Ytblcojacmjbjcaa
open Go.RowKit Plain
attribute [local go_sem] store_new
set_option linter.unusedVariables false
set_option linter.unusedSimpArgs false
/-- A row's block is not a block of another type. -/
theorem own_offR {w : World} {base size n : Nat} {e : TypeId} {v : Value} {xs : List Value} (h : w.ownsRow base e size v n xs) {b m : Nat} {f : Nat → Int} {t : TypeId} (hb : Blk w b m f t) (he : e ≠ t) : some b ≠ v.ownBlock := by
  intro hv
  rcases h.2 with ⟨rfl, _⟩ | ⟨g, cap, cur, rfl, _, hg, _⟩
  · simp [Value.ownBlock] at hv
  · simp only [Value.ownBlock, Option.some.injEq] at hv
    subst hv
    rw [show w.heap[b]? = _ from hb] at hg
    cases hg
    exact he rfl
theorem ho_of {w : World} {base : Nat} {v : Value} {xs : List Int} (h : OwnsInts w base v xs) : w.ownsRow base 3 1 v xs.length (xs.map (Value.int .i64)) := h
set_option maxHeartbeats 2000000 in
set_option maxRecDepth 20000 in
theorem specAgree_any (f : Nat → Int) (d : Int) (w : World) :
    Calls Try.prog 37 #[.agg (mk 16 f), .int .i64 d] w fun e w' => ∃ g cap, e = .returned (.tuple #[.slice (some ⟨g, 0, none⟩) (rAR f d).length cap, .bool (slideRO f d)]) ∧
      OwnsInts w' w.heap.size (.slice (some ⟨g, 0, none⟩) (rAR f d).length cap) (rAR f d) ∧ Below w.heap.size w w' := by
  obtain ⟨i0, hi, hz0, hz1, hz2⟩ := info_parts infoInt
  have z16 := zero16
  have K1 := (Blk.new w 16 f 37).alloc (.cells #[] 3)
  have HB := Lib.hid (((Below.refl w.heap.size w).alloc (Nat.le_refl _) (.cells (mk 16 f) 37)).alloc (by simp) (.cells #[] 3))
  have HO : Hid (OwnsInts ((w.alloc (.cells (mk 16 f) 37)).alloc (.cells #[] 3)) w.heap.size (.slice (some ⟨w.heap.size + 1, 0, none⟩) 0 0) []) := by
    have := World.ownsRow_made (base := w.heap.size) (e := 3) (size := 1) (w.alloc (.cells (mk 16 f) 37)) #[] 0 (by simp) (by decide) rfl
    simp only [World.size_alloc] at this
    exact this
  have HO0 : Hid (w.heap.size ≤ ((w.alloc (.cells (mk 16 f) 37)).alloc (.cells #[] 3)).heap.size) := HB.out.size
  by_cases hV : Vd f
  · have HV := Lib.hid hV
    by_cases hD : 0 ≤ d ∧ d ≤ 3
    · have HD := Lib.hid hD
      rw [rAR_yes ⟨hV, hD⟩, (slide_yes ⟨hV, hD⟩).1]
      obtain ⟨c, rfl⟩ := Int.eq_ofNat_of_zero_le hD.1
      have hc : c < 4 := by omega
      have hc0 : (0 : Int) ≤ (c : Int) := by omega
      have hc3 : (c : Int) ≤ 3 := by omega
      rw [Int.toNat_natCast]
      have iE := eqlBR
      clear hV hD
      go_enter Try.func37, Try.ntmps37
      go_wp2_with (first | ((with_reducible show wpList _ _ _ (Oper.mk _ (Op.load 37 _) _ _ _ _ :: _) _ _); refine loadB (K1) rfl rfl rfl ?_) | ((with_reducible show wpList _ _ _ (Oper.mk _ (Op.load 37 _) _ _ _ (some _) :: _) _ _); refine loadgB (K1) rfl rfl rfl ?_))
      refine (l2Board_yes _ _ HV.out).mono ?_
      rintro e wg1 ⟨rfl, hb⟩
      have HO : Hid (OwnsInts wg1 w.heap.size (.slice (some ⟨w.heap.size + 1, 0, none⟩) 0 0) []) := owns_below HO.out hb
      have K1 := K1.below hb K1.lt
      have HB : Hid (Below w.heap.size w wg1) := HB.out.trans (hb.mono HB.out.size)
      have HO0 : Hid (w.heap.size ≤ wg1.heap.size) := HB.out.size
      clear hb
      go_wp2_with (first | ((with_reducible show wpList _ _ _ (Oper.mk _ (Op.load 37 _) _ _ _ _ :: _) _ _); refine loadB (K1) rfl rfl rfl ?_) | ((with_reducible show wpList _ _ _ (Oper.mk _ (Op.load 37 _) _ _ _ (some _) :: _) _ _); refine loadgB (K1) rfl rfl rfl ?_))
      refine (l2Side_yes _ _ HD.out.1 HD.out.2).mono ?_
      rintro e wg2 ⟨rfl, rfl⟩
      go_wp2_with ((with_reducible show wpList _ _ _ (Oper.mk _ (Op.load 37 _) _ _ _ _ :: _) _ _); refine loadB (K1) rfl rfl rfl ?_)
      refine (l2Slide_nat f c _ HV.out hc0 hc3).mono ?_
      rintro e w5 ⟨rfl, hb⟩
      have HO : Hid (OwnsInts (w5.alloc (.cells (mk 16 (slideB f c)) 37)) w.heap.size (.slice (some ⟨w.heap.size + 1, 0, none⟩) 0 0) []) := (ho_of (owns_below HO.out hb)).alloc _
      have K1 := (K1.below hb K1.lt).alloc (.cells (mk 16 (slideB f c)) 37)
      have K6 := Blk.new w5 16 (slideB f c) 37
      have HB : Hid (Below w.heap.size w w5) := HB.out.trans (hb.mono HB.out.size)
      have HB : Hid (Below w.heap.size w (w5.alloc (.cells (mk 16 (slideB f c)) 37))) := HB.out.alloc HB.out.size _
      clear hb HO0
      go_wp2_with fail
      generalize w5.alloc (.cells (mk 16 (slideB f c)) 37) = w6 at *
      generalize w5.heap.size = b6 at *
      go_loopg [6, 9] 4 (fun g s6 s9 wr => ∃ (k : Nat) (v : Value), k + g = 4 ∧ s9 = .int .i64 ((k : Int) + 1) ∧ v = s6 ∧ Hid (∃ gg cap, v = .slice (some ⟨gg, 0, none⟩) (rAg f c k).length cap) ∧ Hid (OwnsInts wr w.heap.size v (rAg f c k)) ∧ Blk wr w.heap.size 16 f 37 ∧ Blk wr b6 16 (slideB f c) 37 ∧ Hid (Below w.heap.size w wr))
      case atStart => exact ⟨0, _, by omega, rfl, rfl, ⟨_, _, rfl⟩, HO, K1, K6, HB⟩
      case round =>
        clear K1 K6 HB HO
        obtain ⟨k, v, hkg, rfl, rfl, HVv, HO, K1, K6, HB⟩ := hrel
        cases gk with
        | zero =>
          have hk : ¬ ((k : Int) + 1 ≤ 4) := by omega
          obtain rfl : k = 4 := by omega
          clear hkg
          obtain ⟨gg, cap, hv⟩ := HVv.out
          subst hv
          go_wp2_with fail
          go_ret2
          exact ⟨gg, cap, rfl, HO.out, HB.out⟩
        | succ g =>
          have hk : (k : Int) + 1 ≤ 4 := by omega
          have hk4 : k < 4 := by omega
          have HR : Hid (RlOk ((k : Int) + 1)) := by show RlOk _; unfold RlOk; omega
          have HY := Lib.hid (rAg_yes (f := f) (d := c) (k := k))
          have HN := Lib.hid (rAg_no (f := f) (d := c) (k := k))
          go_wp2_with fail
          refine wp_region_held_drew (S := fun W => Blk W w.heap.size 16 f 37 ∧ Blk W b6 16 (slideB f c) 37) (by kernel_rfl) (⟨K1.drew, K6.drew⟩) (fun hHeld => ?_)
          have K1 : Blk wr.drew w.heap.size 16 f 37 := K1.drew
          have K6 : Blk wr.drew b6 16 (slideB f c) 37 := K6.drew
          have BX : Hid (Below wr.heap.size wr wr.drew) := (Below.refl _ wr).drew
          generalize wr.drew = x0 at *
          refine wpAnyH_take (i := 0) (oi := { dst := some 30, op := _, type := _, pos := _, after := _, guard := _ }) (v := .agg (mk 16 f)) rfl (by kernel_rfl) (by kernel_rfl) (by kernel_rfl) (fun _ _ _ h => h) (Or.inl ⟨by rfl, fun _ q => execB q.1 rfl rfl⟩) (by assumption) ?_
          try simp only [Act.put, List.setIfInBounds_toArray, List.set_cons_zero, List.set_cons_succ]
          refine wpAnyH_take (i := 1) (oi := { dst := some 31, op := _, type := _, pos := _, after := _, guard := _ }) (v := .int .i64 (c : Int)) rfl (by kernel_rfl) (by kernel_rfl) (by kernel_rfl) (fun _ _ _ h => h) (Or.inl ⟨by rfl, by intro w hSw; clear hSw; go_simp; (try with_reducible rfl)⟩) (by assumption) ?_
          try simp only [Act.put, List.setIfInBounds_toArray, List.set_cons_zero, List.set_cons_succ]
          refine wpAnyH_take (i := 2) (oi := { dst := some 32, op := _, type := _, pos := _, after := _, guard := _ }) (v := .int .i64 ((k : Int) + 1)) rfl (by kernel_rfl) (by kernel_rfl) (by kernel_rfl) (fun _ _ _ h => h) (Or.inl ⟨by rfl, by intro w hSw; clear hSw; go_simp; (try with_reducible rfl)⟩) (by assumption) ?_
          try simp only [Act.put, List.setIfInBounds_toArray, List.set_cons_zero, List.set_cons_succ]
          refine wpAnyH_take (i := 4) (oi := { dst := some 34, op := _, type := _, pos := _, after := _, guard := _ }) (v := .agg (mk 16 (slideB f c))) rfl (by kernel_rfl) (by kernel_rfl) (by kernel_rfl) (fun _ _ _ h => h) (Or.inl ⟨by rfl, fun _ q => execB q.2 rfl rfl⟩) (by assumption) ?_
          try simp only [Act.put, List.setIfInBounds_toArray, List.set_cons_zero, List.set_cons_succ]
          refine wpAnyH_ready (rs := [3]) (by kernel_rfl) (by simp) ?_
          refine AllReadyH.cons rfl (fun K hK => ?_) AllReadyH.nil
          go_simp
          refine (l10Slide_any f c ((k : Int) + 1) _ HR.out HV.out hc).mono ?_
          rintro e x1 ⟨rfl, hb⟩
          have K1 := K1.below hb K1.lt
          have K6 := K6.below hb K6.lt
          have BX : Hid (Below wr.heap.size wr x1) := BX.out.trans (hb.mono BX.out.size)
          clear hb
          go_wp2_with fail
          clear hHeld
          refine hK.out _ _ ⟨K1, K6⟩ (fun hHeld => ?_)
          clear hK K
          try simp only [Act.put, List.setIfInBounds_toArray, List.set_cons_zero, List.set_cons_succ]
          refine wpAnyH_take (i := 5) (oi := { dst := some 35, op := _, type := _, pos := _, after := _, guard := _ }) (v := .bool (sameB (rB (mgF ((k : Int) + 1)) f c) (slideB f c))) rfl (by kernel_rfl) (by kernel_rfl) (by kernel_rfl) (fun _ _ _ h => h) (Or.inl ⟨by rfl, by intro w hSw; clear hSw; go_simp; (try with_reducible rfl)⟩) (by assumption) ?_
          try simp only [Act.put, List.setIfInBounds_toArray, List.set_cons_zero, List.set_cons_succ]
          refine wpAnyH_done (by kernel_rfl) ?_ _
          clear hHeld
          have ho0 := ho_of (owns_below HO.out BX.out)
          have HB3 : Hid (Below w.heap.size w x1) := HB.out.trans (BX.out.mono HB.out.size)
          clear BX
          cases hs : (sameB (rB (mgF ((k : Int) + 1)) f c) (slideB f c)) with
          | true =>
            have hsz := HB3.out.size
            have hn4 : (rAg f c k).length ≤ 4 := by have := rAg_le f c k; omega
            go_wp2_with (at_builtin; refine wpList_append_own _ rfl _ _ 43 rfl w.heap.size 3 i0 (.int .i64 0) 1 8 Try.underlying43 hi hz0 hz1 hz2 rfl (by decide) _ _ _ rfl (ho0.alloc _) ⟨x1.heap.size, 0, none⟩ 1 1 [.int .i64 ((k : Int) + 1)] rfl rfl ?c1 ?c2 ?c3 ?c4 ?c5 ?_)
            try (case c1 => exact cell_one_new _ _ _)
            case c2 => simp [Value.oneCell']
            case c3 => unfold maxLen; omega
            case c4 => omega
            case c5 => first | (simp; omega) | omega
            intro v' w2 hown' hgrow' _
            obtain ⟨gg, cap, hv'⟩ := ownsRow_succ hown'
            have HV' : Hid (∃ gg cap, v' = .slice (some ⟨gg, 0, none⟩) ((rAg f c k).length + 1) cap) := ⟨gg, cap, hv'⟩
            have HB4 : Hid (Below w.heap.size w w2) := ((HB3.out).alloc HB3.out.size _).grown hgrow' (by simp; omega) (fun j hj => by have := (ho0.lt j hj).1; omega)
            have K1 := (K1.alloc (.cells #[.int .i64 ((k : Int) + 1)] 3)).grown hgrow' (fun e => own_offR ho0 K1 (by decide) e)
            have K6 := (K6.alloc (.cells #[.int .i64 ((k : Int) + 1)] 3)).grown hgrow' (fun e => own_offR ho0 K6 (by decide) e)
            have HO : Hid (OwnsInts w2 w.heap.size v' (rAg f c k ++ [(k : Int) + 1])) := by
              show OwnsInts _ _ _ _
              unfold OwnsInts
              rw [List.map_append, List.length_append]
              exact hown'
            clear hown' hgrow' ho0 hv'
            go_wp2_with fail
            have Y := Lib.hid (HY.out hs)
            go_roundg g
            case rel => exact ⟨k + 1, _, by omega, by go_num, rfl, by rw [Y.out, List.length_append]; exact HV', by rw [Y.out]; exact HO, K1, K6, HB4⟩
            case measure => omega
          | false =>
            have Y := Lib.hid (HN.out hs)
            go_wp2_with fail
            go_roundg g
            case rel => exact ⟨k + 1, _, by omega, by go_num, rfl, by rw [Y.out]; exact HVv, by rw [Y.out]; exact ho0, K1, K6, HB3⟩
            case measure => omega
    · rw [rAR_no fun h => hD h.2, (slide_no fun h => hD h.2).1]
      have HD := Lib.hid (show d < 0 ∨ 3 < d by omega)
      clear hV hD
      go_enter Try.func37, Try.ntmps37
      go_wp2_with (first | ((with_reducible show wpList _ _ _ (Oper.mk _ (Op.load 37 _) _ _ _ _ :: _) _ _); refine loadB (K1) rfl rfl rfl ?_) | ((with_reducible show wpList _ _ _ (Oper.mk _ (Op.load 37 _) _ _ _ (some _) :: _) _ _); refine loadgB (K1) rfl rfl rfl ?_))
      refine (l2Board_yes _ _ HV.out).mono ?_
      rintro e wg1 ⟨rfl, hb⟩
      have HO : Hid (OwnsInts wg1 w.heap.size (.slice (some ⟨w.heap.size + 1, 0, none⟩) 0 0) []) := owns_below HO.out hb
      have K1 := K1.below hb K1.lt
      have HB : Hid (Below w.heap.size w wg1) := HB.out.trans (hb.mono HB.out.size)
      have HO0 : Hid (w.heap.size ≤ wg1.heap.size) := HB.out.size
      clear hb
      go_wp2_with (first | ((with_reducible show wpList _ _ _ (Oper.mk _ (Op.load 37 _) _ _ _ _ :: _) _ _); refine loadB (K1) rfl rfl rfl ?_) | ((with_reducible show wpList _ _ _ (Oper.mk _ (Op.load 37 _) _ _ _ (some _) :: _) _ _); refine loadgB (K1) rfl rfl rfl ?_))
      refine (l2Side_no _ _ HD.out).mono ?_
      rintro e wg2 ⟨rfl, rfl⟩
      go_wp2_with fail
      go_ret2
      exact ⟨_, _, rfl, HO.out, HB.out⟩
  · rw [rAR_no fun h => hV h.1, (slide_no fun h => hV h.1).1]
    have HV := Lib.hid hV
    clear hV
    go_enter Try.func37, Try.ntmps37
    go_wp2_with (first | ((with_reducible show wpList _ _ _ (Oper.mk _ (Op.load 37 _) _ _ _ _ :: _) _ _); refine loadB (K1) rfl rfl rfl ?_) | ((with_reducible show wpList _ _ _ (Oper.mk _ (Op.load 37 _) _ _ _ (some _) :: _) _ _); refine loadgB (K1) rfl rfl rfl ?_))
    refine (l2Board_no _ _ HV.out).mono ?_
    rintro e wg1 ⟨rfl, hb⟩
    have HO : Hid (OwnsInts wg1 w.heap.size (.slice (some ⟨w.heap.size + 1, 0, none⟩) 0 0) []) := owns_below HO.out hb
    have K1 := K1.below hb K1.lt
    have HB : Hid (Below w.heap.size w wg1) := HB.out.trans (hb.mono HB.out.size)
    have HO0 : Hid (w.heap.size ≤ wg1.heap.size) := HB.out.size
    clear hb
    go_wp2_with fail
    go_ret2
    exact ⟨_, _, rfl, HO.out, HB.out⟩
set_option maxHeartbeats 2000000 in
set_option maxRecDepth 20000 in
theorem implAgree_any (f : Nat → Int) (d : Int) (w : World) :
    Calls Try.prog 38 #[.agg (mk 16 f), .int .i64 d] w fun e w' => ∃ g cap, e = .returned (.tuple #[.slice (some ⟨g, 0, none⟩) (rAR f d).length cap, .bool (slideRO f d)]) ∧
      OwnsInts w' w.heap.size (.slice (some ⟨g, 0, none⟩) (rAR f d).length cap) (rAR f d) ∧ Below w.heap.size w w' := by
  obtain ⟨i0, hi, hz0, hz1, hz2⟩ := info_parts infoInt
  have z16 := zero16
  have K1 := Blk.new w 16 f 37
  have HB := Lib.hid ((Below.refl w.heap.size w).alloc (Nat.le_refl _) (.cells (mk 16 f) 37))
  by_cases hS : SlideOk f d
  · rw [rAR_yes hS, (slide_yes hS).1]
    have CS : Hid (∀ W, Calls Try.prog 68 #[.agg (mk 16 f), .int .i64 d] W fun e w' => e = .returned (.tuple #[.agg (mk 16 (slideB f d.toNat)), .int .i64 (slideS f d.toNat 4), .bool true]) ∧ Below W.heap.size W w') := by
      intro W
      have := implSlide_any f d W
      rw [(slide_yes hS).1, (slide_yes hS).2.1, (slide_yes hS).2.2.1] at this
      exact this
    obtain ⟨hV, hD⟩ := hS
    have HV := Lib.hid hV
    obtain ⟨c, rfl⟩ := Int.eq_ofNat_of_zero_le hD.1
    have hc : c < 4 := by omega
    rw [Int.toNat_natCast] at CS ⊢
    have iE := eqlBR
    clear hV hD
    go_enter Try.func38, Try.ntmps38
    go_wp2_with ((with_reducible show wpList _ _ _ (Oper.mk _ (Op.load 37 _) _ _ _ _ :: _) _ _); refine loadB (K1) rfl rfl rfl ?_)
    refine (CS.out _).mono ?_
    rintro e w5 ⟨rfl, hb⟩
    have K1 := ((K1.below hb K1.lt).alloc (.cells (mk 16 (slideB f c)) 37)).alloc (.cells #[] 3)
    have K6 := (Blk.new w5 16 (slideB f c) 37).alloc (.cells #[] 3)
    have HB : Hid (Below w.heap.size w w5) := HB.out.trans (hb.mono HB.out.size)
    have HB : Hid (Below w.heap.size w (w5.alloc (.cells (mk 16 (slideB f c)) 37))) := HB.out.alloc HB.out.size _
    have HO : Hid (OwnsInts ((w5.alloc (.cells (mk 16 (slideB f c)) 37)).alloc (.cells #[] 3)) w.heap.size (.slice (some ⟨w5.heap.size + 1, 0, none⟩) 0 0) []) := by
      have := World.ownsRow_made (base := w.heap.size) (e := 3) (size := 1) (w5.alloc (.cells (mk 16 (slideB f c)) 37)) #[] 0 HB.out.size (by decide) rfl
      simp only [World.size_alloc] at this
      exact this
    have HB : Hid (Below w.heap.size w ((w5.alloc (.cells (mk 16 (slideB f c)) 37)).alloc (.cells #[] 3))) := HB.out.alloc HB.out.size _
    clear hb
    go_wp2_with fail
    generalize (w5.alloc (.cells (mk 16 (slideB f c)) 37)).alloc (.cells #[] 3) = w6 at *
    refine (laws_any _).mono ?_
    rintro e w7 ⟨rfl, hb⟩
    have K1 := K1.below hb K1.lt
    have K6 := K6.below hb K6.lt
    have HO : Hid (OwnsInts w7 w.heap.size (.slice (some ⟨w5.heap.size + 1, 0, none⟩) 0 0) []) := owns_below HO.out hb
    have HB : Hid (Below w.heap.size w w7) := HB.out.trans (hb.mono HB.out.size)
    have iL : ∀ (k : Nat) (hk : k < 4) (W : World), (Instr.index 82 (.agg lawCells) (.int .i64 (k : Int))).run Try.prog W = .ok (.iface 112 (.agg #[inR ((k : Int) + 1)])) W := fun k hk W => idxL k hk W
    clear hb
    generalize lawCells = LC at *
    go_wp2_with fail
    generalize w5.heap.size = b6 at *
    go_loopg [9, 26] 4 (fun g s9 s26 wr => ∃ (k : Nat) (v : Value), k + g = 4 ∧ s26 = .int .i64 ((k : Int)) ∧ v = s9 ∧ Hid (∃ gg cap, v = .slice (some ⟨gg, 0, none⟩) (rAg f c k).length cap) ∧ Hid (OwnsInts wr w.heap.size v (rAg f c k)) ∧ Blk wr w.heap.size 16 f 37 ∧ Blk wr b6 16 (slideB f c) 37 ∧ Hid (Below w.heap.size w wr))
    case atStart => exact ⟨0, _, by omega, rfl, rfl, ⟨_, _, rfl⟩, HO, K1, K6, HB⟩
    case round =>
      clear K1 K6 HB HO
      obtain ⟨k, v, hkg, rfl, rfl, HVv, HO, K1, K6, HB⟩ := hrel
      cases gk with
      | zero =>
        have hk : ¬ ((k : Int) < 4) := by omega
        obtain rfl : k = 4 := by omega
        clear hkg
        obtain ⟨gg, cap, hv⟩ := HVv.out
        subst hv
        go_wp2_with fail
        go_ret2
        exact ⟨gg, cap, rfl, HO.out, HB.out⟩
      | succ g =>
        have hk : (k : Int) < 4 := by omega
        have hk4 : k < 4 := by omega
        have HX := Lib.hid (merges_any ((k : Int) + 1) (by unfold RlOk; omega))
        have HY := Lib.hid (rAg_yes (f := f) (d := c) (k := k))
        have HN := Lib.hid (rAg_no (f := f) (d := c) (k := k))
        have iLk := iL k hk4
        generalize inR ((k : Int) + 1) = x at *
        clear iL
        go_wp2_with fail
        refine wp_region_held_drew (S := fun W => Blk W w.heap.size 16 f 37) (by kernel_rfl) (K1.drew) (fun hHeld => ?_)
        have K1 : Blk wr.drew w.heap.size 16 f 37 := K1.drew
        have BX : Hid (Below wr.heap.size wr wr.drew) := (Below.refl _ wr).drew
        have LK : Hid (w.heap.size < wr.heap.size) := K1.lt
        generalize wr.drew = x0 at *
        refine wpAnyH_take (i := 0) (oi := { dst := some 31, op := _, type := _, pos := _, after := _, guard := _ }) (v := .agg (mk 16 f)) rfl (by kernel_rfl) (by kernel_rfl) (by kernel_rfl) (fun _ _ _ h => h) (Or.inl ⟨by rfl, fun _ q => execB q rfl rfl⟩) (by assumption) ?_
        try simp only [Act.put, List.setIfInBounds_toArray, List.set_cons_zero, List.set_cons_succ]
        refine wpAnyH_take (i := 1) (oi := { dst := some 32, op := _, type := _, pos := _, after := _, guard := _ }) (v := .int .i64 (c : Int)) rfl (by kernel_rfl) (by kernel_rfl) (by kernel_rfl) (fun _ _ _ h => h) (Or.inl ⟨by rfl, by intro w hSw; clear hSw; go_simp; (try with_reducible rfl)⟩) (by assumption) ?_
        try simp only [Act.put, List.setIfInBounds_toArray, List.set_cons_zero, List.set_cons_succ]
        refine wpAnyH_take (i := 2) (oi := { dst := some 33, op := _, type := _, pos := _, after := _, guard := _ }) (v := .iface 112 (.agg #[x])) rfl (by kernel_rfl) (by kernel_rfl) (by kernel_rfl) (fun _ _ _ h => h) (Or.inl ⟨by rfl, by intro w hSw; clear hSw; go_simp; (try with_reducible rfl)⟩) (by assumption) ?_
        try simp only [Act.put, List.setIfInBounds_toArray, List.set_cons_zero, List.set_cons_succ]
        refine wpAnyH_take (i := 3) (oi := { dst := some 34, op := _, type := _, pos := _, after := _, guard := _ }) (v := .iface 112 (.agg #[x])) rfl (by kernel_rfl) (by kernel_rfl) (by kernel_rfl) (fun _ _ _ h => h) (Or.inl ⟨by rfl, by intro w hSw; clear hSw; go_simp; (try with_reducible rfl)⟩) (by assumption) ?_
        try simp only [Act.put, List.setIfInBounds_toArray, List.set_cons_zero, List.set_cons_succ]
        refine wpAnyH_take (i := 4) (oi := { dst := some 35, op := _, type := _, pos := _, after := _, guard := _ }) (v := .func (.method "loop.example/g01194/impl.merge") #[.iface 112 (.agg #[x])] #[]) rfl (by kernel_rfl) (by kernel_rfl) (by kernel_rfl) (fun _ _ _ h => h) (Or.inl ⟨by rfl, by intro w hSw; clear hSw; go_simp; (try with_reducible rfl)⟩) (by assumption) ?_
        try simp only [Act.put, List.setIfInBounds_toArray, List.set_cons_zero, List.set_cons_succ]
        refine wpAnyH_ready (rs := [5, 9]) (by kernel_rfl) (by simp) ?_
        refine AllReadyH.cons rfl (fun K hK => ?_) ?_
        · go_simp
          refine (slideBy_nat x (mgF ((k : Int) + 1)) HX.out f c _ HV.out hc).mono ?_
          rintro e x1 ⟨rfl, hb⟩
          have K1 := K1.below hb K1.lt
          have BX : Hid (Below wr.heap.size wr x1) := BX.out.trans (hb.mono BX.out.size)
          clear hb
          go_wp2_with fail
          clear hHeld
          refine hK.out _ _ K1 (fun hHeld => ?_)
          clear hK K
          try simp only [Act.put, List.setIfInBounds_toArray, List.set_cons_zero, List.set_cons_succ]
          refine wpAnyH_take (i := 6) (oi := { dst := some 30, op := _, type := _, pos := _, after := _, guard := _ }) (v := .tuple #[.agg (mk 16 (rB (mgF ((k : Int) + 1)) f c)), .int .i64 (rM (mgF ((k : Int) + 1)) f c 4)]) rfl (by kernel_rfl) (by kernel_rfl) (by kernel_rfl) (fun _ _ _ h => h) (Or.inl ⟨by rfl, by intro w hSw; clear hSw; go_simp; (try with_reducible rfl)⟩) (by assumption) ?_
          try simp only [Act.put, List.setIfInBounds_toArray, List.set_cons_zero, List.set_cons_succ]
          refine wpAnyH_take (i := 7) (oi := { dst := some 37, op := _, type := _, pos := _, after := _, guard := _ }) (v := .agg (mk 16 (rB (mgF ((k : Int) + 1)) f c))) rfl (by kernel_rfl) (by kernel_rfl) (by kernel_rfl) (fun _ _ _ h => h) (Or.inl ⟨by rfl, by intro w hSw; clear hSw; go_simp; (try with_reducible rfl)⟩) (by assumption) ?_
          try simp only [Act.put, List.setIfInBounds_toArray, List.set_cons_zero, List.set_cons_succ]
          refine wpAnyH_take (i := 8) (oi := { dst := some 38, op := _, type := _, pos := _, after := _, guard := _ }) (v := .int .i64 (rM (mgF ((k : Int) + 1)) f c 4)) rfl (by kernel_rfl) (by kernel_rfl) (by kernel_rfl) (fun _ _ _ h => h) (Or.inl ⟨by rfl, by intro w hSw; clear hSw; go_simp; (try with_reducible rfl)⟩) (by assumption) ?_
          try simp only [Act.put, List.setIfInBounds_toArray, List.set_cons_zero, List.set_cons_succ]
          refine wpAnyH_ready (rs := [9]) (by kernel_rfl) (by simp) ?_
          refine AllReadyH.cons rfl (fun K hK => ?_) AllReadyH.nil
          rw [if_pos (by rfl)]
          refine wp_allocXB rfl ?_
          have K8 := Blk.new x1 16 (fun _ => 0) 37
          have HB8 : Hid (wr.heap.size ≤ x1.heap.size) := BX.out.size
          have K1 := K1.alloc (.cells (mk 16 fun _ => 0) 37)
          have BX : Hid (Below wr.heap.size wr (x1.alloc (.cells (mk 16 fun _ => 0) 37))) := BX.out.alloc BX.out.size _
          generalize x1.alloc (.cells (mk 16 fun _ => 0) 37) = x2 at *
          generalize x1.heap.size = b8 at *
          clear hHeld
          refine hK.out _ _ K1 (fun hHeld => ?_)
          clear hK K
          try simp only [Act.put, List.setIfInBounds_toArray, List.set_cons_zero, List.set_cons_succ]
          refine wpAnyH_ready (rs := [10]) (by kernel_rfl) (by simp) ?_
          refine AllReadyH.cons rfl (fun K hK => ?_) AllReadyH.nil
          have st1 := run_store_blk (P := Try.prog) (rB (mgF ((k : Int) + 1)) f c) K8
          have ms1 : (mk 16 (rB (mgF ((k : Int) + 1)) f c)).size = 16 := mk_size 16 _
          go_simp
          clear st1 ms1
          have K1 := K1.rowOther b8 (mk 16 (rB (mgF ((k : Int) + 1)) f c)) (by have := HB8.out; have := LK.out; omega)
          have BX : Hid (Below wr.heap.size wr (x2.setRow b8 (mk 16 (rB (mgF ((k : Int) + 1)) f c)))) := below_setRow BX.out HB8.out _
          have K8 := K8.row 16 (rB (mgF ((k : Int) + 1)) f c)
          generalize x2.setRow b8 (mk 16 (rB (mgF ((k : Int) + 1)) f c)) = x3 at *
          clear hHeld
          refine hK.out _ _ K1 (fun hHeld => ?_)
          clear hK K
          try simp only [Act.put, List.setIfInBounds_toArray, List.set_cons_zero, List.set_cons_succ]
          refine wpAnyH_take (i := 11) (oi := { dst := some 13, op := _, type := _, pos := _, after := _, guard := _ }) (v := .int .i64 (rM (mgF ((k : Int) + 1)) f c 4)) rfl (by kernel_rfl) (by kernel_rfl) (by kernel_rfl) (fun _ _ _ h => h) (Or.inl ⟨by rfl, by intro w hSw; clear hSw; go_simp; (try with_reducible rfl)⟩) (by assumption) ?_
          try simp only [Act.put, List.setIfInBounds_toArray, List.set_cons_zero, List.set_cons_succ]
          refine wpAnyH_done (by kernel_rfl) ?_ _
          clear hHeld
          have K6 := K6.below BX.out K6.lt
          have ho0 := ho_of (owns_below HO.out BX.out)
          have HB3 : Hid (Below w.heap.size w x3) := HB.out.trans (BX.out.mono HB.out.size)
          clear BX HB8 LK
          cases hs : (sameB (rB (mgF ((k : Int) + 1)) f c) (slideB f c)) with
          | true =>
            have hsz := HB3.out.size
            have hn4 : (rAg f c k).length ≤ 4 := by have := rAg_le f c k; omega
            go_wp2_with (first | ((with_reducible show wpList _ _ _ (Oper.mk _ (Op.load 37 _) _ _ _ _ :: _) _ _); refine loadB (K8) rfl rfl rfl ?_) | ((with_reducible show wpList _ _ _ (Oper.mk _ (Op.load 37 _) _ _ _ _ :: _) _ _); refine loadB (K6) rfl rfl rfl ?_) | (at_builtin; refine wpList_append_own _ rfl _ _ 43 rfl w.heap.size 3 i0 (.int .i64 0) 1 8 Try.underlying43 hi hz0 hz1 hz2 rfl (by decide) _ _ _ rfl (ho0.alloc _) ⟨x3.heap.size, 0, none⟩ 1 1 [.int .i64 (1 + (k : Int))] rfl rfl ?c1 ?c2 ?c3 ?c4 ?c5 ?_))
            try (case c1 => exact cell_one_new _ _ _)
            case c2 => simp [Value.oneCell']
            case c3 => unfold maxLen; omega
            case c4 => omega
            case c5 => first | (simp; omega) | omega
            intro v' w2 hown' hgrow' _
            obtain ⟨gg, cap, hv'⟩ := ownsRow_succ hown'
            have HV' : Hid (∃ gg cap, v' = .slice (some ⟨gg, 0, none⟩) ((rAg f c k).length + 1) cap) := ⟨gg, cap, hv'⟩
            have HB4 : Hid (Below w.heap.size w w2) := ((HB3.out).alloc HB3.out.size _).grown hgrow' (by simp; omega) (fun j hj => by have := (ho0.lt j hj).1; omega)
            have K1 := (K1.alloc (.cells #[.int .i64 (1 + (k : Int))] 3)).grown hgrow' (fun e => own_offR ho0 K1 (by decide) e)
            have K6 := (K6.alloc (.cells #[.int .i64 (1 + (k : Int))] 3)).grown hgrow' (fun e => own_offR ho0 K6 (by decide) e)
            have HO : Hid (OwnsInts w2 w.heap.size v' (rAg f c k ++ [1 + (k : Int)])) := by
              show OwnsInts _ _ _ _
              unfold OwnsInts
              rw [List.map_append, List.length_append]
              exact hown'
            clear hown' hgrow' ho0 hv'
            go_wp2_with fail
            have Y := Lib.hid (HY.out hs)
            have e1 : (k : Int) + 1 = 1 + (k : Int) := by omega
            go_roundg g
            case rel => exact ⟨k + 1, _, by omega, by go_num, rfl, by rw [Y.out, List.length_append]; exact HV', by rw [Y.out, e1]; exact HO, K1, K6, HB4⟩
            case measure => omega
          | false =>
            have Y := Lib.hid (HN.out hs)
            go_wp2_with (first | ((with_reducible show wpList _ _ _ (Oper.mk _ (Op.load 37 _) _ _ _ _ :: _) _ _); refine loadB (K8) rfl rfl rfl ?_) | ((with_reducible show wpList _ _ _ (Oper.mk _ (Op.load 37 _) _ _ _ _ :: _) _ _); refine loadB (K6) rfl rfl rfl ?_))
            go_roundg g
            case rel => exact ⟨k + 1, _, by omega, by go_num, rfl, by rw [Y.out]; exact HVv, by rw [Y.out]; exact ho0, K1, K6, HB3⟩
            case measure => omega
        refine AllReadyH.cons rfl (fun K hK => ?_) AllReadyH.nil
        rw [if_pos (by rfl)]
        refine wp_allocXB rfl ?_
        have K8 := Blk.new x0 16 (fun _ => 0) 37
        have HB8 : Hid (wr.heap.size ≤ x0.heap.size) := BX.out.size
        have K1 := K1.alloc (.cells (mk 16 fun _ => 0) 37)
        have BX : Hid (Below wr.heap.size wr (x0.alloc (.cells (mk 16 fun _ => 0) 37))) := BX.out.alloc BX.out.size _
        generalize x0.alloc (.cells (mk 16 fun _ => 0) 37) = x1 at *
        generalize x0.heap.size = b8 at *
        clear hHeld
        refine hK.out _ _ K1 (fun hHeld => ?_)
        clear hK K
        try simp only [Act.put, List.setIfInBounds_toArray, List.set_cons_zero, List.set_cons_succ]
        refine wpAnyH_ready (rs := [5]) (by kernel_rfl) (by simp) ?_
        refine AllReadyH.cons rfl (fun K hK => ?_) AllReadyH.nil
        go_simp
        refine (slideBy_nat x (mgF ((k : Int) + 1)) HX.out f c _ HV.out hc).mono ?_
        rintro e x2 ⟨rfl, hb⟩
        have K1 := K1.below hb K1.lt
        have BX : Hid (Below wr.heap.size wr x2) := BX.out.trans (hb.mono BX.out.size)
        have K8 := K8.below hb K8.lt
        clear hb
        go_wp2_with fail
        clear hHeld
        refine hK.out _ _ K1 (fun hHeld => ?_)
        clear hK K
        try simp only [Act.put, List.setIfInBounds_toArray, List.set_cons_zero, List.set_cons_succ]
        refine wpAnyH_take (i := 6) (oi := { dst := some 30, op := _, type := _, pos := _, after := _, guard := _ }) (v := .tuple #[.agg (mk 16 (rB (mgF ((k : Int) + 1)) f c)), .int .i64 (rM (mgF ((k : Int) + 1)) f c 4)]) rfl (by kernel_rfl) (by kernel_rfl) (by kernel_rfl) (fun _ _ _ h => h) (Or.inl ⟨by rfl, by intro w hSw; clear hSw; go_simp; (try with_reducible rfl)⟩) (by assumption) ?_
        try simp only [Act.put, List.setIfInBounds_toArray, List.set_cons_zero, List.set_cons_succ]
        refine wpAnyH_take (i := 7) (oi := { dst := some 37, op := _, type := _, pos := _, after := _, guard := _ }) (v := .agg (mk 16 (rB (mgF ((k : Int) + 1)) f c))) rfl (by kernel_rfl) (by kernel_rfl) (by kernel_rfl) (fun _ _ _ h => h) (Or.inl ⟨by rfl, by intro w hSw; clear hSw; go_simp; (try with_reducible rfl)⟩) (by assumption) ?_
        try simp only [Act.put, List.setIfInBounds_toArray, List.set_cons_zero, List.set_cons_succ]
        refine wpAnyH_take (i := 8) (oi := { dst := some 38, op := _, type := _, pos := _, after := _, guard := _ }) (v := .int .i64 (rM (mgF ((k : Int) + 1)) f c 4)) rfl (by kernel_rfl) (by kernel_rfl) (by kernel_rfl) (fun _ _ _ h => h) (Or.inl ⟨by rfl, by intro w hSw; clear hSw; go_simp; (try with_reducible rfl)⟩) (by assumption) ?_
        try simp only [Act.put, List.setIfInBounds_toArray, List.set_cons_zero, List.set_cons_succ]
        refine wpAnyH_ready (rs := [10]) (by kernel_rfl) (by simp) ?_
        refine AllReadyH.cons rfl (fun K hK => ?_) AllReadyH.nil
        have st1 := run_store_blk (P := Try.prog) (rB (mgF ((k : Int) + 1)) f c) K8
        have ms1 : (mk 16 (rB (mgF ((k : Int) + 1)) f c)).size = 16 := mk_size 16 _
        go_simp
        clear st1 ms1
        have K1 := K1.rowOther b8 (mk 16 (rB (mgF ((k : Int) + 1)) f c)) (by have := HB8.out; have := LK.out; omega)
        have BX : Hid (Below wr.heap.size wr (x2.setRow b8 (mk 16 (rB (mgF ((k : Int) + 1)) f c)))) := below_setRow BX.out HB8.out _
        have K8 := K8.row 16 (rB (mgF ((k : Int) + 1)) f c)
        generalize x2.setRow b8 (mk 16 (rB (mgF ((k : Int) + 1)) f c)) = x3 at *
        clear hHeld
        refine hK.out _ _ K1 (fun hHeld => ?_)
        clear hK K
        try simp only [Act.put, List.setIfInBounds_toArray, List.set_cons_zero, List.set_cons_succ]
        refine wpAnyH_take (i := 11) (oi := { dst := some 13, op := _, type := _, pos := _, after := _, guard := _ }) (v := .int .i64 (rM (mgF ((k : Int) + 1)) f c 4)) rfl (by kernel_rfl) (by kernel_rfl) (by kernel_rfl) (fun _ _ _ h => h) (Or.inl ⟨by rfl, by intro w hSw; clear hSw; go_simp; (try with_reducible rfl)⟩) (by assumption) ?_
        try simp only [Act.put, List.setIfInBounds_toArray, List.set_cons_zero, List.set_cons_succ]
        refine wpAnyH_done (by kernel_rfl) ?_ _
        clear hHeld
        have K6 := K6.below BX.out K6.lt
        have ho0 := ho_of (owns_below HO.out BX.out)
        have HB3 : Hid (Below w.heap.size w x3) := HB.out.trans (BX.out.mono HB.out.size)
        clear BX HB8 LK
        cases hs : (sameB (rB (mgF ((k : Int) + 1)) f c) (slideB f c)) with
        | true =>
          have hsz := HB3.out.size
          have hn4 : (rAg f c k).length ≤ 4 := by have := rAg_le f c k; omega
          go_wp2_with (first | ((with_reducible show wpList _ _ _ (Oper.mk _ (Op.load 37 _) _ _ _ _ :: _) _ _); refine loadB (K8) rfl rfl rfl ?_) | ((with_reducible show wpList _ _ _ (Oper.mk _ (Op.load 37 _) _ _ _ _ :: _) _ _); refine loadB (K6) rfl rfl rfl ?_) | (at_builtin; refine wpList_append_own _ rfl _ _ 43 rfl w.heap.size 3 i0 (.int .i64 0) 1 8 Try.underlying43 hi hz0 hz1 hz2 rfl (by decide) _ _ _ rfl (ho0.alloc _) ⟨x3.heap.size, 0, none⟩ 1 1 [.int .i64 (1 + (k : Int))] rfl rfl ?c1 ?c2 ?c3 ?c4 ?c5 ?_))
          try (case c1 => exact cell_one_new _ _ _)
          case c2 => simp [Value.oneCell']
          case c3 => unfold maxLen; omega
          case c4 => omega
          case c5 => first | (simp; omega) | omega
          intro v' w2 hown' hgrow' _
          obtain ⟨gg, cap, hv'⟩ := ownsRow_succ hown'
          have HV' : Hid (∃ gg cap, v' = .slice (some ⟨gg, 0, none⟩) ((rAg f c k).length + 1) cap) := ⟨gg, cap, hv'⟩
          have HB4 : Hid (Below w.heap.size w w2) := ((HB3.out).alloc HB3.out.size _).grown hgrow' (by simp; omega) (fun j hj => by have := (ho0.lt j hj).1; omega)
          have K1 := (K1.alloc (.cells #[.int .i64 (1 + (k : Int))] 3)).grown hgrow' (fun e => own_offR ho0 K1 (by decide) e)
          have K6 := (K6.alloc (.cells #[.int .i64 (1 + (k : Int))] 3)).grown hgrow' (fun e => own_offR ho0 K6 (by decide) e)
          have HO : Hid (OwnsInts w2 w.heap.size v' (rAg f c k ++ [1 + (k : Int)])) := by
            show OwnsInts _ _ _ _
            unfold OwnsInts
            rw [List.map_append, List.length_append]
            exact hown'
          clear hown' hgrow' ho0 hv'
          go_wp2_with fail
          have Y := Lib.hid (HY.out hs)
          have e1 : (k : Int) + 1 = 1 + (k : Int) := by omega
          go_roundg g
          case rel => exact ⟨k + 1, _, by omega, by go_num, rfl, by rw [Y.out, List.length_append]; exact HV', by rw [Y.out, e1]; exact HO, K1, K6, HB4⟩
          case measure => omega
        | false =>
          have Y := Lib.hid (HN.out hs)
          go_wp2_with (first | ((with_reducible show wpList _ _ _ (Oper.mk _ (Op.load 37 _) _ _ _ _ :: _) _ _); refine loadB (K8) rfl rfl rfl ?_) | ((with_reducible show wpList _ _ _ (Oper.mk _ (Op.load 37 _) _ _ _ _ :: _) _ _); refine loadB (K6) rfl rfl rfl ?_))
          go_roundg g
          case rel => exact ⟨k + 1, _, by omega, by go_num, rfl, by rw [Y.out]; exact HVv, by rw [Y.out]; exact ho0, K1, K6, HB3⟩
          case measure => omega
  · rw [rAR_no hS, (slide_no hS).1]
    have CS : Hid (∀ W, Calls Try.prog 68 #[.agg (mk 16 f), .int .i64 d] W fun e w' => e = .returned (.tuple #[.agg (mk 16 fun _ => 0), .int .i64 0, .bool false]) ∧ Below W.heap.size W w') := by
      intro W
      have := implSlide_any f d W
      rw [(slide_no hS).1, (slide_no hS).2.1, (slide_no hS).2.2.1] at this
      exact this
    clear hS
    go_enter Try.func38, Try.ntmps38
    go_wp2_with ((with_reducible show wpList _ _ _ (Oper.mk _ (Op.load 37 _) _ _ _ _ :: _) _ _); refine loadB (K1) rfl rfl rfl ?_)
    refine (CS.out _).mono ?_
    rintro e w5 ⟨rfl, hb⟩
    have HB : Hid (Below w.heap.size w w5) := HB.out.trans (hb.mono HB.out.size)
    have HB : Hid (Below w.heap.size w (w5.alloc (.cells (mk 16 fun _ => 0) 37))) := HB.out.alloc HB.out.size _
    have HO : Hid (OwnsInts ((w5.alloc (.cells (mk 16 fun _ => 0) 37)).alloc (.cells #[] 3)) w.heap.size (.slice (some ⟨w5.heap.size + 1, 0, none⟩) 0 0) []) := by
      have := World.ownsRow_made (base := w.heap.size) (e := 3) (size := 1) (w5.alloc (.cells (mk 16 fun _ => 0) 37)) #[] 0 HB.out.size (by decide) rfl
      simp only [World.size_alloc] at this
      exact this
    have HB : Hid (Below w.heap.size w ((w5.alloc (.cells (mk 16 fun _ => 0) 37)).alloc (.cells #[] 3))) := HB.out.alloc HB.out.size _
    clear hb K1
    go_wp2_with fail
    go_ret2
    exact ⟨_, _, rfl, HO.out, HB.out⟩
set_option maxHeartbeats 2000000 in
set_option maxRecDepth 20000 in
theorem specCommon_any (f : Nat → Int) (w : World) :
    Calls Try.prog 39 #[.agg (mk 16 f)] w fun e w' => ∃ g cap, e = .returned (.tuple #[.slice (some ⟨g, 0, none⟩) (rCR f).length cap, .bool (vdO f)]) ∧
      OwnsInts w' w.heap.size (.slice (some ⟨g, 0, none⟩) (rCR f).length cap) (rCR f) ∧ Below w.heap.size w w' := by
  obtain ⟨i0, hi, hz0, hz1, hz2⟩ := info_parts infoInt
  have z16 := zero16
  have K1 := (Blk.new w 16 f 37).alloc (.cells #[] 3)
  have HB := Lib.hid (((Below.refl w.heap.size w).alloc (Nat.le_refl _) (.cells (mk 16 f) 37)).alloc (by simp) (.cells #[] 3))
  have HO : Hid (OwnsInts ((w.alloc (.cells (mk 16 f) 37)).alloc (.cells #[] 3)) w.heap.size (.slice (some ⟨w.heap.size + 1, 0, none⟩) 0 0) []) := by
    have := World.ownsRow_made (base := w.heap.size) (e := 3) (size := 1) (w.alloc (.cells (mk 16 f) 37)) #[] 0 (by simp) (by decide) rfl
    simp only [World.size_alloc] at this
    exact this
  have HO0 : Hid (w.heap.size ≤ ((w.alloc (.cells (mk 16 f) 37)).alloc (.cells #[] 3)).heap.size) := HB.out.size
  by_cases hV : Vd f
  · have HV := Lib.hid hV
    rw [rCR_yes hV, vdO_yes hV]
    have iN := neqB
    clear hV
    go_enter Try.func39, Try.ntmps39
    go_wp2_with (first | ((with_reducible show wpList _ _ _ (Oper.mk _ (Op.load 37 _) _ _ _ _ :: _) _ _); refine loadB (K1) rfl rfl rfl ?_) | ((with_reducible show wpList _ _ _ (Oper.mk _ (Op.load 37 _) _ _ _ (some _) :: _) _ _); refine loadgB (K1) rfl rfl rfl ?_))
    refine (l2Board_yes _ _ HV.out).mono ?_
    rintro e wg1 ⟨rfl, hb⟩
    have HO : Hid (OwnsInts wg1 w.heap.size (.slice (some ⟨w.heap.size + 1, 0, none⟩) 0 0) []) := owns_below HO.out hb
    have K1 := K1.below hb K1.lt
    have HB : Hid (Below w.heap.size w wg1) := HB.out.trans (hb.mono HB.out.size)
    have HO0 : Hid (w.heap.size ≤ wg1.heap.size) := HB.out.size
    clear hb
    go_wp2_with fail
    go_loopg [4, 5] 4 (fun g s4 s5 wr => ∃ (k : Nat) (v : Value), k + g = 4 ∧ s5 = .int .i64 (k : Int) ∧ v = s4 ∧ Hid (∃ gg cap, v = .slice (some ⟨gg, 0, none⟩) (rCm f k).length cap) ∧ Hid (OwnsInts wr w.heap.size v (rCm f k)) ∧ Blk wr w.heap.size 16 f 37 ∧ Hid (Below w.heap.size w wr))
    case atStart => exact ⟨0, _, by omega, rfl, rfl, ⟨_, _, rfl⟩, HO, K1, HB⟩
    case round =>
      clear K1 HB HO
      obtain ⟨k, v, hkg, rfl, rfl, HVv, HO, K1, HB⟩ := hrel
      cases gk with
      | zero =>
        have hk : ¬ ((k : Int) < 4) := by omega
        obtain rfl : k = 4 := by omega
        clear hkg
        obtain ⟨gg, cap, hv⟩ := HVv.out
        subst hv
        go_wp2_with fail
        go_ret2
        exact ⟨gg, cap, rfl, HO.out, HB.out⟩
      | succ g =>
        have hk : (k : Int) < 4 := by omega
        have hk4 : k < 4 := by omega
        have HY := Lib.hid (rCm_yes (f := f) (k := k))
        have HN := Lib.hid (rCm_no (f := f) (k := k))
        go_wp2_with fail
        have BX : Hid (Below wr.heap.size wr wr) := Below.refl _ wr
        go_loopg [6, 7] 4 (fun h s6 s7 wx => ∃ j : Nat, j + h = 4 ∧ s7 = .int .i64 ((j : Int) + 1) ∧ s6 = .bool (rAll f k j) ∧ Blk wx w.heap.size 16 f 37 ∧ Hid (Below wr.heap.size wr wx))
        case atStart => exact ⟨0, by omega, rfl, rfl, K1, BX⟩
        case round =>
          clear K1 BX
          obtain ⟨j, hjh, rfl, rfl, K1, BX⟩ := hrel
          cases gk with
          | zero =>
            have hj : ¬ ((j : Int) + 1 ≤ 4) := by omega
            obtain rfl : j = 4 := by omega
            have ho0 := ho_of (owns_below HO.out BX.out)
            have HB3 : Hid (Below w.heap.size w wr) := HB.out.trans (BX.out.mono HB.out.size)
            clear BX
            cases hs : rAll f k 4 with
            | true =>
              have hsz := HB3.out.size
              have hn4 : (rCm f k).length ≤ 4 := by have := rCm_le f k; omega
              go_wp2_with (at_builtin; refine wpList_append_own _ rfl _ _ 43 rfl w.heap.size 3 i0 (.int .i64 0) 1 8 Try.underlying43 hi hz0 hz1 hz2 rfl (by decide) _ _ _ rfl (ho0.alloc _) ⟨wr.heap.size, 0, none⟩ 1 1 [.int .i64 ((k : Int))] rfl rfl ?c1 ?c2 ?c3 ?c4 ?c5 ?_)
              try (case c1 => exact cell_one_new _ _ _)
              case c2 => simp [Value.oneCell']
              case c3 => unfold maxLen; omega
              case c4 => omega
              case c5 => first | (simp; omega) | omega
              intro v' w2 hown' hgrow' _
              obtain ⟨gg, cap, hv'⟩ := ownsRow_succ hown'
              have HV' : Hid (∃ gg cap, v' = .slice (some ⟨gg, 0, none⟩) ((rCm f k).length + 1) cap) := ⟨gg, cap, hv'⟩
              have HB4 : Hid (Below w.heap.size w w2) := ((HB3.out).alloc HB3.out.size _).grown hgrow' (by simp; omega) (fun j hj => by have := (ho0.lt j hj).1; omega)
              have K1 := (K1.alloc (.cells #[.int .i64 ((k : Int))] 3)).grown hgrow' (fun e => own_offR ho0 K1 (by decide) e)
              have HO : Hid (OwnsInts w2 w.heap.size v' (rCm f k ++ [(k : Int)])) := by
                show OwnsInts _ _ _ _
                unfold OwnsInts
                rw [List.map_append, List.length_append]
                exact hown'
              clear hown' hgrow' ho0 hv'
              go_wp2_with fail
              have Y := Lib.hid (HY.out hs)
              go_roundg g
              case rel => exact ⟨k + 1, _, by omega, by go_num, rfl, by rw [Y.out, List.length_append]; exact HV', by rw [Y.out]; exact HO, K1, HB4⟩
              case measure => omega
            | false =>
              have Y := Lib.hid (HN.out hs)
              go_wp2_with fail
              go_roundg g
              case rel => exact ⟨k + 1, _, by omega, by go_num, rfl, by rw [Y.out]; exact HVv, by rw [Y.out]; exact ho0, K1, HB3⟩
              case measure => omega
          | succ h =>
            have hj : (j : Int) + 1 ≤ 4 := by omega
            have HR : Hid (RlOk ((j : Int) + 1)) := by show RlOk _; unfold RlOk; omega
            cases ha : rAll f k j with
            | true =>
              go_wp2_with fail
              refine wp_region_held_drew (S := fun W => Blk W w.heap.size 16 f 37) (by kernel_rfl) (K1.drew) (fun hHeld => ?_)
              have K1 : Blk wr.drew w.heap.size 16 f 37 := K1.drew
              have BX := Lib.hid BX.out.drew
              generalize wr.drew = x0 at *
              refine wpAnyH_take (i := 0) (oi := { dst := some 21, op := _, type := _, pos := _, after := _, guard := _ }) (v := .bool true) rfl (by kernel_rfl) (by kernel_rfl) (by kernel_rfl) (fun _ _ _ h => h) (Or.inl ⟨by rfl, by intro w hSw; clear hSw; go_simp; (try with_reducible rfl)⟩) (by assumption) ?_
              try simp only [Act.put, List.setIfInBounds_toArray, List.set_cons_zero, List.set_cons_succ]
              refine wpAnyH_take (i := 1) (oi := { dst := some 22, op := _, type := _, pos := _, after := _, guard := _ }) (v := .bool true) rfl (by kernel_rfl) (by kernel_rfl) (by kernel_rfl) (fun _ _ _ h => h) (Or.inl ⟨by rfl, by intro w hSw; clear hSw; go_simp; (try with_reducible rfl)⟩) (by assumption) ?_
              try simp only [Act.put, List.setIfInBounds_toArray, List.set_cons_zero, List.set_cons_succ]
              refine wpAnyH_take (i := 2) (oi := { dst := some 23, op := _, type := _, pos := _, after := _, guard := _ }) (v := .agg (mk 16 f)) rfl (by kernel_rfl) (by kernel_rfl) (by kernel_rfl) (fun _ _ _ h => h) (Or.inl ⟨by rfl, fun _ q => execB q rfl rfl⟩) (by assumption) ?_
              try simp only [Act.put, List.setIfInBounds_toArray, List.set_cons_zero, List.set_cons_succ]
              refine wpAnyH_take (i := 3) (oi := { dst := some 24, op := _, type := _, pos := _, after := _, guard := _ }) (v := .int .i64 (k : Int)) rfl (by kernel_rfl) (by kernel_rfl) (by kernel_rfl) (fun _ _ _ h => h) (Or.inl ⟨by rfl, by intro w hSw; clear hSw; go_simp; (try with_reducible rfl)⟩) (by assumption) ?_
              try simp only [Act.put, List.setIfInBounds_toArray, List.set_cons_zero, List.set_cons_succ]
              refine wpAnyH_take (i := 4) (oi := { dst := some 25, op := _, type := _, pos := _, after := _, guard := _ }) (v := .int .i64 ((j : Int) + 1)) rfl (by kernel_rfl) (by kernel_rfl) (by kernel_rfl) (fun _ _ _ h => h) (Or.inl ⟨by rfl, by intro w hSw; clear hSw; go_simp; (try with_reducible rfl)⟩) (by assumption) ?_
              try simp only [Act.put, List.setIfInBounds_toArray, List.set_cons_zero, List.set_cons_succ]
              refine wpAnyH_take (i := 6) (oi := { dst := some 27, op := _, type := _, pos := _, after := _, guard := _ }) (v := .agg (mk 16 f)) rfl (by kernel_rfl) (by kernel_rfl) (by kernel_rfl) (fun _ _ _ h => h) (Or.inl ⟨by rfl, fun _ q => execB q rfl rfl⟩) (by assumption) ?_
              try simp only [Act.put, List.setIfInBounds_toArray, List.set_cons_zero, List.set_cons_succ]
              refine wpAnyH_ready (rs := [5]) (by kernel_rfl) (by simp) ?_
              refine AllReadyH.cons rfl (fun K hK => ?_) AllReadyH.nil
              rw [if_pos (by rfl)]
              go_simp
              refine (l10Slide_any f k ((j : Int) + 1) _ HR.out HV.out hk4).mono ?_
              rintro e x1 ⟨rfl, hb⟩
              have K1 := K1.below hb K1.lt
              have BX := Lib.hid (BX.out.trans (hb.mono BX.out.size))
              clear hb
              go_wp2_with fail
              clear hHeld
              refine hK.out _ _ K1 (fun hHeld => ?_)
              clear hK K
              try simp only [Act.put, List.setIfInBounds_toArray, List.set_cons_zero, List.set_cons_succ]
              refine wpAnyH_take (i := 7) (oi := { dst := some 28, op := _, type := _, pos := _, after := _, guard := _ }) (v := .bool (!sameB (rB (mgF ((j : Int) + 1)) f k) f)) rfl (by kernel_rfl) (by kernel_rfl) (by kernel_rfl) (fun _ _ _ h => h) (Or.inl ⟨by rfl, by intro w hSw; clear hSw; go_simp; (try with_reducible rfl)⟩) (by assumption) ?_
              try simp only [Act.put, List.setIfInBounds_toArray, List.set_cons_zero, List.set_cons_succ]
              refine wpAnyH_take (i := 8) (oi := { dst := some 29, op := _, type := _, pos := _, after := _, guard := _ }) (v := .bool (!sameB (rB (mgF ((j : Int) + 1)) f k) f)) rfl (by kernel_rfl) (by kernel_rfl) (by kernel_rfl) (fun _ _ _ h => h) (Or.inl ⟨by rfl, by intro w hSw; clear hSw; go_simp; (try with_reducible rfl)⟩) (by assumption) ?_
              try simp only [Act.put, List.setIfInBounds_toArray, List.set_cons_zero, List.set_cons_succ]
              refine wpAnyH_take (i := 9) (oi := { dst := some 6, op := _, type := _, pos := _, after := _, guard := _ }) (v := .bool (!sameB (rB (mgF ((j : Int) + 1)) f k) f)) rfl (by kernel_rfl) (by kernel_rfl) (by kernel_rfl) (fun _ _ _ h => h) (Or.inl ⟨by rfl, by intro w hSw; clear hSw; go_simp; (try with_reducible rfl)⟩) (by assumption) ?_
              try simp only [Act.put, List.setIfInBounds_toArray, List.set_cons_zero, List.set_cons_succ]
              refine wpAnyH_done (by kernel_rfl) ?_ _
              clear hHeld
              have HA2 : Hid (rAll f k (j + 1) = (!sameB (rB (mgF ((j : Int) + 1)) f k) f)) := by show (rAll f k j && rMv (mgF ((j : Int) + 1)) f k) = _; rw [ha]; rfl
              go_wp2_with fail
              go_roundg h
              case rel => exact ⟨j + 1, by omega, by go_num, by rw [HA2.out], K1, BX⟩
              case measure => omega
            | false =>
              go_wp2_with fail
              refine wp_region_held_drew (S := fun W => Blk W w.heap.size 16 f 37) (by kernel_rfl) (K1.drew) (fun hHeld => ?_)
              have K1 : Blk wr.drew w.heap.size 16 f 37 := K1.drew
              have BX := Lib.hid BX.out.drew
              generalize wr.drew = x0 at *
              refine wpAnyH_take (i := 0) (oi := { dst := some 21, op := _, type := _, pos := _, after := _, guard := _ }) (v := .bool false) rfl (by kernel_rfl) (by kernel_rfl) (by kernel_rfl) (fun _ _ _ h => h) (Or.inl ⟨by rfl, by intro w hSw; clear hSw; go_simp; (try with_reducible rfl)⟩) (by assumption) ?_
              try simp only [Act.put, List.setIfInBounds_toArray, List.set_cons_zero, List.set_cons_succ]
              refine wpAnyH_take (i := 1) (oi := { dst := some 22, op := _, type := _, pos := _, after := _, guard := _ }) (v := .bool false) rfl (by kernel_rfl) (by kernel_rfl) (by kernel_rfl) (fun _ _ _ h => h) (Or.inl ⟨by rfl, by intro w hSw; clear hSw; go_simp; (try with_reducible rfl)⟩) (by assumption) ?_
              try simp only [Act.put, List.setIfInBounds_toArray, List.set_cons_zero, List.set_cons_succ]
              refine wpAnyH_take (i := 2) (oi := { dst := some 23, op := _, type := _, pos := _, after := _, guard := _ }) (v := undef) rfl (by kernel_rfl) (by kernel_rfl) (by kernel_rfl) (fun _ _ _ h => h) (Or.inr ⟨by rfl, rfl⟩) (by assumption) ?_
              try simp only [Act.put, List.setIfInBounds_toArray, List.set_cons_zero, List.set_cons_succ]
              refine wpAnyH_take (i := 3) (oi := { dst := some 24, op := _, type := _, pos := _, after := _, guard := _ }) (v := undef) rfl (by kernel_rfl) (by kernel_rfl) (by kernel_rfl) (fun _ _ _ h => h) (Or.inr ⟨by rfl, rfl⟩) (by assumption) ?_
              try simp only [Act.put, List.setIfInBounds_toArray, List.set_cons_zero, List.set_cons_succ]
              refine wpAnyH_take (i := 4) (oi := { dst := some 25, op := _, type := _, pos := _, after := _, guard := _ }) (v := undef) rfl (by kernel_rfl) (by kernel_rfl) (by kernel_rfl) (fun _ _ _ h => h) (Or.inr ⟨by rfl, rfl⟩) (by assumption) ?_
              try simp only [Act.put, List.setIfInBounds_toArray, List.set_cons_zero, List.set_cons_succ]
              refine wpAnyH_take (i := 5) (oi := { dst := some 26, op := _, type := _, pos := _, after := _, guard := _ }) (v := undef) rfl (by kernel_rfl) (by kernel_rfl) (by kernel_rfl) (fun _ _ _ h => h) (Or.inr ⟨by rfl, rfl⟩) (by assumption) ?_
              try simp only [Act.put, List.setIfInBounds_toArray, List.set_cons_zero, List.set_cons_succ]
              refine wpAnyH_take (i := 6) (oi := { dst := some 27, op := _, type := _, pos := _, after := _, guard := _ }) (v := undef) rfl (by kernel_rfl) (by kernel_rfl) (by kernel_rfl) (fun _ _ _ h => h) (Or.inr ⟨by rfl, rfl⟩) (by assumption) ?_
              try simp only [Act.put, List.setIfInBounds_toArray, List.set_cons_zero, List.set_cons_succ]
              refine wpAnyH_take (i := 7) (oi := { dst := some 28, op := _, type := _, pos := _, after := _, guard := _ }) (v := undef) rfl (by kernel_rfl) (by kernel_rfl) (by kernel_rfl) (fun _ _ _ h => h) (Or.inr ⟨by rfl, rfl⟩) (by assumption) ?_
              try simp only [Act.put, List.setIfInBounds_toArray, List.set_cons_zero, List.set_cons_succ]
              refine wpAnyH_take (i := 8) (oi := { dst := some 29, op := _, type := _, pos := _, after := _, guard := _ }) (v := .bool false) rfl (by kernel_rfl) (by kernel_rfl) (by kernel_rfl) (fun _ _ _ h => h) (Or.inl ⟨by rfl, by intro w hSw; clear hSw; go_simp; (try with_reducible rfl)⟩) (by assumption) ?_
              try simp only [Act.put, List.setIfInBounds_toArray, List.set_cons_zero, List.set_cons_succ]
              refine wpAnyH_take (i := 9) (oi := { dst := some 6, op := _, type := _, pos := _, after := _, guard := _ }) (v := .bool false) rfl (by kernel_rfl) (by kernel_rfl) (by kernel_rfl) (fun _ _ _ h => h) (Or.inl ⟨by rfl, by intro w hSw; clear hSw; go_simp; (try with_reducible rfl)⟩) (by assumption) ?_
              try simp only [Act.put, List.setIfInBounds_toArray, List.set_cons_zero, List.set_cons_succ]
              refine wpAnyH_done (by kernel_rfl) ?_ _
              clear hHeld
              have HA2 : Hid (rAll f k (j + 1) = false) := by show (rAll f k j && rMv (mgF ((j : Int) + 1)) f k) = _; rw [ha]; rfl
              go_wp2_with fail
              go_roundg h
              case rel => exact ⟨j + 1, by omega, by go_num, by rw [HA2.out], K1, BX⟩
              case measure => omega
  · rw [rCR_no hV, vdO_no hV]
    have HV := Lib.hid hV
    clear hV
    go_enter Try.func39, Try.ntmps39
    go_wp2_with (first | ((with_reducible show wpList _ _ _ (Oper.mk _ (Op.load 37 _) _ _ _ _ :: _) _ _); refine loadB (K1) rfl rfl rfl ?_) | ((with_reducible show wpList _ _ _ (Oper.mk _ (Op.load 37 _) _ _ _ (some _) :: _) _ _); refine loadgB (K1) rfl rfl rfl ?_))
    refine (l2Board_no _ _ HV.out).mono ?_
    rintro e wg1 ⟨rfl, hb⟩
    have HO : Hid (OwnsInts wg1 w.heap.size (.slice (some ⟨w.heap.size + 1, 0, none⟩) 0 0) []) := owns_below HO.out hb
    have K1 := K1.below hb K1.lt
    have HB : Hid (Below w.heap.size w wg1) := HB.out.trans (hb.mono HB.out.size)
    have HO0 : Hid (w.heap.size ≤ wg1.heap.size) := HB.out.size
    clear hb
    go_wp2_with fail
    go_ret2
    exact ⟨_, _, rfl, HO.out, HB.out⟩
set_option maxHeartbeats 2000000 in
set_option maxRecDepth 20000 in
theorem isCommon_any (f : Nat → Int) (d : Nat) (w : World) (hV : Vd f) (hd : d < 4) :
    Calls Try.prog 70 #[.agg (mk 16 f), .int .i64 (d : Int)] w fun e w' => e = .returned (.bool (rAll f d 4)) ∧ Below w.heap.size w w' := by
  have K1 := Blk.new w 16 f 37
  have HB := Lib.hid ((Below.refl w.heap.size w).alloc (Nat.le_refl _) (.cells (mk 16 f) 37))
  have HV := Lib.hid hV
  have iL : ∀ (k : Nat) (hk : k < 4) (W : World), (Instr.index 82 (.agg lawCells) (.int .i64 (k : Int))).run Try.prog W = .ok (.iface 112 (.agg #[inR ((k : Int) + 1)])) W := fun k hk W => idxL k hk W
  have HLa := Lib.hid laws_any
  generalize lawCells = LC at *
  clear hV
  go_enter Try.func70, Try.ntmps70
  go_wp2_with fail
  refine (HLa.out _).mono ?_
  rintro e w1 ⟨rfl, hb⟩
  have K1 := K1.below hb K1.lt
  have HB : Hid (Below w.heap.size w w1) := HB.out.trans (hb.mono HB.out.size)
  clear hb
  go_wp2_with fail
  go_loopg [8] 4 (fun g s8 wr => ∃ k : Nat, k + g = 4 ∧ s8 = .int .i64 (k : Int) ∧ Hid (rAll f d k = true) ∧ Blk wr w.heap.size 16 f 37 ∧ Hid (Below w.heap.size w wr))
  case atStart => exact ⟨0, by omega, rfl, rfl, K1, HB⟩
  case round =>
    clear K1 HB
    obtain ⟨k, hkg, rfl, HA, K1, HB⟩ := hrel
    cases gk with
    | zero =>
      have hk : ¬ ((k : Int) < 4) := by omega
      obtain rfl : k = 4 := by omega
      clear hkg
      go_wp2_with fail
      go_ret
      exact ⟨by rw [HA.out]; rfl, HB.out⟩
    | succ g =>
      have hk : (k : Int) < 4 := by omega
      have hk4 : k < 4 := by omega
      have HX := Lib.hid (merges_any ((k : Int) + 1) (by unfold RlOk; omega))
      have HS : Hid (rAll f d (k + 1) = rMv (mgF ((k : Int) + 1)) f d) := by show (rAll f d k && _) = _; rw [HA.out]; rfl
      have HEnd : Hid (rAll f d (k + 1) = false → rAll f d 4 = false) := fun e => by
        have := rAll_false f d e (4 - (k + 1))
        rw [show k + 1 + (4 - (k + 1)) = 4 by omega] at this
        exact this
      have iLk := iL k hk4
      generalize inR ((k : Int) + 1) = x at *
      clear iL
      go_wp2_with ((with_reducible show wpList _ _ _ (Oper.mk _ (Op.load 37 _) _ _ _ _ :: _) _ _); refine loadB (K1) rfl rfl rfl ?_)
      refine (isMoveBy_any x (mgF ((k : Int) + 1)) HX.out f d _ HV.out hd).mono ?_
      rintro e w5 ⟨rfl, hb⟩
      have K1 := K1.below hb K1.lt
      have HB : Hid (Below w.heap.size w w5) := HB.out.trans (hb.mono HB.out.size)
      clear hb
      cases hm : rMv (mgF ((k : Int) + 1)) f d with
      | true =>
        have HA2 : Hid (rAll f d (k + 1) = true) := by show _ = _; rw [HS.out, hm]
        clear HS HEnd
        go_wp2_with fail
        go_roundg g
        case rel => exact ⟨k + 1, by omega, by go_num, HA2, K1, HB⟩
        case measure => omega
      | false =>
        have HA2 : Hid (rAll f d 4 = false) := HEnd.out (by rw [HS.out, hm])
        clear HS HEnd
        go_wp2_with fail
        go_ret
        exact ⟨by rw [HA2.out]; rfl, HB.out⟩
set_option maxHeartbeats 2000000 in
set_option maxRecDepth 20000 in
theorem implCommon_any (f : Nat → Int) (w : World) :
    Calls Try.prog 40 #[.agg (mk 16 f)] w fun e w' => ∃ g cap, e = .returned (.tuple #[.slice (some ⟨g, 0, none⟩) (rCR f).length cap, .bool (vdO f)]) ∧
      OwnsInts w' w.heap.size (.slice (some ⟨g, 0, none⟩) (rCR f).length cap) (rCR f) ∧ Below w.heap.size w w' := by
  obtain ⟨i0, hi, hz0, hz1, hz2⟩ := info_parts infoInt
  have K1 := Blk.new w 16 f 37
  have HB := Lib.hid ((Below.refl w.heap.size w).alloc (Nat.le_refl _) (.cells (mk 16 f) 37))
  by_cases hV : Vd f
  · have HV := Lib.hid hV
    rw [rCR_yes hV, vdO_yes hV]
    have iN := neqB
    clear hV
    go_enter Try.func40, Try.ntmps40
    go_wp2_with (first | ((with_reducible show wpList _ _ _ (Oper.mk _ (Op.load 37 _) _ _ _ _ :: _) _ _); refine loadB (K1) rfl rfl rfl ?_) | ((with_reducible show wpList _ _ _ (Oper.mk _ (Op.load 37 _) _ _ _ (some _) :: _) _ _); refine loadgB (K1) rfl rfl rfl ?_))
    refine (implBoard_yes _ _ HV.out).mono ?_
    rintro e wg1 ⟨rfl, hb⟩
    have K1 := K1.below hb K1.lt
    have HB : Hid (Below w.heap.size w wg1) := HB.out.trans (hb.mono HB.out.size)
    clear hb
    have K1 := K1.alloc (.cells #[] 3)
    have HO : Hid (OwnsInts (wg1.alloc (.cells #[] 3)) w.heap.size (.slice (some ⟨wg1.heap.size, 0, none⟩) 0 0) []) := World.ownsRow_made (base := w.heap.size) (e := 3) (size := 1) wg1 #[] 0 HB.out.size (by decide) rfl
    have HB : Hid (Below w.heap.size w (wg1.alloc (.cells #[] 3))) := HB.out.alloc HB.out.size _
    go_wp2_with fail
    generalize wg1.alloc (.cells #[] 3) = w6 at *
    go_loopg [4, 11] 4 (fun g s4 s11 wr => ∃ (k : Nat) (v : Value), k + g = 4 ∧ s11 = .int .i64 (k : Int) ∧ v = s4 ∧ Hid (∃ gg cap, v = .slice (some ⟨gg, 0, none⟩) (rCm f k).length cap) ∧ Hid (OwnsInts wr w.heap.size v (rCm f k)) ∧ Blk wr w.heap.size 16 f 37 ∧ Hid (Below w.heap.size w wr))
    case atStart => exact ⟨0, _, by omega, rfl, rfl, ⟨_, _, rfl⟩, HO, K1, HB⟩
    case round =>
      clear K1 HB HO
      obtain ⟨k, v, hkg, rfl, rfl, HVv, HO, K1, HB⟩ := hrel
      cases gk with
      | zero =>
        have hk : ¬ ((k : Int) < 4) := by omega
        obtain rfl : k = 4 := by omega
        clear hkg
        obtain ⟨gg, cap, hv⟩ := HVv.out
        subst hv
        go_wp2_with fail
        go_ret2
        exact ⟨gg, cap, rfl, HO.out, HB.out⟩
      | succ g =>
        have hk : (k : Int) < 4 := by omega
        have hk4 : k < 4 := by omega
        have HY := Lib.hid (rCm_yes (f := f) (k := k))
        have HN := Lib.hid (rCm_no (f := f) (k := k))
        go_wp2_with ((with_reducible show wpList _ _ _ (Oper.mk _ (Op.load 37 _) _ _ _ _ :: _) _ _); refine loadB (K1) rfl rfl rfl ?_)
        refine (isCommon_any f k _ HV.out hk4).mono ?_
        rintro e w7 ⟨rfl, hb⟩
        have K1 := K1.below hb K1.lt
        have ho0 := ho_of (owns_below HO.out hb)
        have HB3 : Hid (Below w.heap.size w w7) := HB.out.trans (hb.mono HB.out.size)
        clear hb
        cases hs : rAll f k 4 with
        | true =>
          have hsz := HB3.out.size
          have hn4 : (rCm f k).length ≤ 4 := by have := rCm_le f k; omega
          go_wp2_with (at_builtin; refine wpList_append_own _ rfl _ _ 43 rfl w.heap.size 3 i0 (.int .i64 0) 1 8 Try.underlying43 hi hz0 hz1 hz2 rfl (by decide) _ _ _ rfl (ho0.alloc _) ⟨w7.heap.size, 0, none⟩ 1 1 [.int .i64 ((k : Int))] rfl rfl ?c1 ?c2 ?c3 ?c4 ?c5 ?_)
          try (case c1 => exact cell_one_new _ _ _)
          case c2 => simp [Value.oneCell']
          case c3 => unfold maxLen; omega
          case c4 => omega
          case c5 => first | (simp; omega) | omega
          intro v' w2 hown' hgrow' _
          obtain ⟨gg, cap, hv'⟩ := ownsRow_succ hown'
          have HV' : Hid (∃ gg cap, v' = .slice (some ⟨gg, 0, none⟩) ((rCm f k).length + 1) cap) := ⟨gg, cap, hv'⟩
          have HB4 : Hid (Below w.heap.size w w2) := ((HB3.out).alloc HB3.out.size _).grown hgrow' (by simp; omega) (fun j hj => by have := (ho0.lt j hj).1; omega)
          have K1 := (K1.alloc (.cells #[.int .i64 ((k : Int))] 3)).grown hgrow' (fun e => own_offR ho0 K1 (by decide) e)
          have HO : Hid (OwnsInts w2 w.heap.size v' (rCm f k ++ [(k : Int)])) := by
            show OwnsInts _ _ _ _
            unfold OwnsInts
            rw [List.map_append, List.length_append]
            exact hown'
          clear hown' hgrow' ho0 hv'
          go_wp2_with fail
          have Y := Lib.hid (HY.out hs)
          go_roundg g
          case rel => exact ⟨k + 1, _, by omega, by go_num, rfl, by rw [Y.out, List.length_append]; exact HV', by rw [Y.out]; exact HO, K1, HB4⟩
          case measure => omega
        | false =>
          have Y := Lib.hid (HN.out hs)
          go_wp2_with fail
          go_roundg g
          case rel => exact ⟨k + 1, _, by omega, by go_num, rfl, by rw [Y.out]; exact HVv, by rw [Y.out]; exact ho0, K1, HB3⟩
          case measure => omega
  · rw [rCR_no hV, vdO_no hV]
    have HV := Lib.hid hV
    clear hV
    go_enter Try.func40, Try.ntmps40
    go_wp2_with (first | ((with_reducible show wpList _ _ _ (Oper.mk _ (Op.load 37 _) _ _ _ _ :: _) _ _); refine loadB (K1) rfl rfl rfl ?_) | ((with_reducible show wpList _ _ _ (Oper.mk _ (Op.load 37 _) _ _ _ (some _) :: _) _ _); refine loadgB (K1) rfl rfl rfl ?_))
    refine (implBoard_no _ _ HV.out).mono ?_
    rintro e wg1 ⟨rfl, hb⟩
    have K1 := K1.below hb K1.lt
    have HB : Hid (Below w.heap.size w wg1) := HB.out.trans (hb.mono HB.out.size)
    clear hb
    have HO : Hid (OwnsInts (wg1.alloc (.cells #[] 3)) w.heap.size (.slice (some ⟨wg1.heap.size, 0, none⟩) 0 0) []) := World.ownsRow_made (base := w.heap.size) (e := 3) (size := 1) wg1 #[] 0 HB.out.size (by decide) rfl
    have HB : Hid (Below w.heap.size w (wg1.alloc (.cells #[] 3))) := HB.out.alloc HB.out.size _
    go_wp2_with fail
    go_ret2
    exact ⟨_, _, rfl, HO.out, HB.out⟩
end Go.Proofs.Ytblcojacmjbjcaa
