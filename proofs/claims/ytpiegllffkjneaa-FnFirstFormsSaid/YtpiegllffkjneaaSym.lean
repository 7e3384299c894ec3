/-
  The contracts of SymmetriesOf and CountForms, in the reference and in the program, for every board.
-/
import Derived.Test.YtpiegllffkjneaaOver
import Derived.Test.YtpiegllffkjneaaImplForm2
import Derived.Deep.RegionHeld3
namespace Go.Proofs.Ytpiegllffkjneaa
open Go.RowKit Plain
attribute [local go_sem] store_new

theorem owns_step {w W W' : World} {b n : Nat} {f : Nat → Int} {t : TypeId} {v : Value} {xs : List Int} (h : Blk W w.heap.size n f t ∧ OwnsInts W b v xs ∧ Below w.heap.size w W) (hb : Below W.heap.size W W') :
    Blk W' w.heap.size n f t ∧ OwnsInts W' b v xs ∧ Below w.heap.size w W' :=
  ⟨h.1.below hb h.1.lt, owns_below h.2.1 hb, h.2.2.trans (hb.mono h.2.2.size)⟩
theorem OwnsInts.drew {W : World} {b : Nat} {v : Value} {xs : List Int} (h : OwnsInts W b v xs) : OwnsInts W.drew b v xs := h
set_option maxHeartbeats 2000000 in
set_option maxRecDepth 20000 in
theorem l3Same_any (f : Nat → Int) (w : World) :
    Calls Try.prog 93 #[.agg (mk 16 f)] w fun e w' => ∃ g cap, e = .returned (.slice (some ⟨g, 0, none⟩) (symL f 8).length cap) ∧
      OwnsInts w' w.heap.size (.slice (some ⟨g, 0, none⟩) (symL f 8).length cap) (symL f 8) ∧ Below w.heap.size w w' := by
  obtain ⟨i0, hi, hz0, hz1, hz2⟩ := info_parts infoInt
  have K1 := (Blk.new w 16 f 27).alloc (.cells #[] 3)
  have HB := Lib.hid (((Below.refl w.heap.size w).alloc (Nat.le_refl _) (.cells (mk 16 f) 27)).alloc (by simp) (.cells #[] 3))
  have HO : OwnsInts ((w.alloc (.cells (mk 16 f) 27)).alloc (.cells #[] 3)) (w.heap.size + 1) (.slice (some ⟨w.heap.size + 1, 0, none⟩) 0 0) [] := by
    have := World.ownsRow_made (base := w.heap.size + 1) (e := 3) (size := 1) (w.alloc (.cells (mk 16 f) 27)) #[] 0 (by simp) (by decide) rfl
    simp only [World.size_alloc] at this
    exact this
  go_enter Try.func93, Try.ntmps93
  go_wp2_with fail
  go_loopg [3, 4] 8 (fun g s3 s4 wr => ∃ (k : Nat) (v : Value), k + g = 8 ∧ s4 = .int .i64 k ∧ v = s3 ∧ (∃ gg cap, v = .slice (some ⟨gg, 0, none⟩) (symL f k).length cap) ∧ OwnsInts wr (w.heap.size + 1) v (symL f k) ∧ Blk wr w.heap.size 16 f 27 ∧ Hid (Below w.heap.size w wr))
  case atStart => exact ⟨0, _, by omega, rfl, rfl, ⟨_, _, rfl⟩, HO, K1, HB⟩
  case round =>
    obtain ⟨k, v, hkg, rfl, rfl, hv, ho, k1, hb⟩ := hrel
    cases gk with
    | zero =>
      have hk : ¬ ((k : Int) < 8) := by omega
      obtain rfl : k = 8 := by omega
      clear hkg hk
      obtain ⟨gg, cap, rfl⟩ := hv
      go_wp2_with fail
      go_ret
      exact ⟨gg, cap, rfl, ownsRow_wide ho (by omega), hb.out⟩
    | succ g =>
      have hk8 : (k : Int) < 8 := by omega
      have hk9 : k < 8 := by omega
      have S0 : Blk wr w.heap.size 16 f 27 ∧ OwnsInts wr (w.heap.size + 1) v (symL f k) ∧ Below w.heap.size w wr := ⟨k1, ho, hb.out⟩
      have HVv := Lib.hid hv
      clear k1 ho hb hv
      have iE : ∀ (f g : Nat → Int) (w : World), (Op.equalIn 10000 27 (.agg (mk 16 f)) (.agg (mk 16 g))).run Try.prog w = .ok (sameB f g) w := eqB 9996
      have a0 := fun (W : World) (h : Blk W w.heap.size 16 f 27) => h.cell (i := 0) (by omega)
      have a1 := fun (W : World) (h : Blk W w.heap.size 16 f 27) => h.cell (i := 1) (by omega)
      have a2 := fun (W : World) (h : Blk W w.heap.size 16 f 27) => h.cell (i := 2) (by omega)
      have a3 := fun (W : World) (h : Blk W w.heap.size 16 f 27) => h.cell (i := 3) (by omega)
      have a4 := fun (W : World) (h : Blk W w.heap.size 16 f 27) => h.cell (i := 4) (by omega)
      have a5 := fun (W : World) (h : Blk W w.heap.size 16 f 27) => h.cell (i := 5) (by omega)
      have a6 := fun (W : World) (h : Blk W w.heap.size 16 f 27) => h.cell (i := 6) (by omega)
      have a7 := fun (W : World) (h : Blk W w.heap.size 16 f 27) => h.cell (i := 7) (by omega)
      have a8 := fun (W : World) (h : Blk W w.heap.size 16 f 27) => h.cell (i := 8) (by omega)
      have a9 := fun (W : World) (h : Blk W w.heap.size 16 f 27) => h.cell (i := 9) (by omega)
      have a10 := fun (W : World) (h : Blk W w.heap.size 16 f 27) => h.cell (i := 10) (by omega)
      have a11 := fun (W : World) (h : Blk W w.heap.size 16 f 27) => h.cell (i := 11) (by omega)
      have a12 := fun (W : World) (h : Blk W w.heap.size 16 f 27) => h.cell (i := 12) (by omega)
      have a13 := fun (W : World) (h : Blk W w.heap.size 16 f 27) => h.cell (i := 13) (by omega)
      have a14 := fun (W : World) (h : Blk W w.heap.size 16 f 27) => h.cell (i := 14) (by omega)
      have a15 := fun (W : World) (h : Blk W w.heap.size 16 f 27) => h.cell (i := 15) (by omega)
      have ae : (#[.int .i64 (f 0), .int .i64 (f 1), .int .i64 (f 2), .int .i64 (f 3), .int .i64 (f 4), .int .i64 (f 5), .int .i64 (f 6), .int .i64 (f 7), .int .i64 (f 8), .int .i64 (f 9), .int .i64 (f 10), .int .i64 (f 11), .int .i64 (f 12), .int .i64 (f 13), .int .i64 (f 14), .int .i64 (f 15)] : Array Value) = mk 16 f := rfl
      go_wp2_with fail
      go_region_held3 (fun w' => Blk w' w.heap.size 16 f 27 ∧ OwnsInts w' (w.heap.size + 1) v (symL f k) ∧ Below w.heap.size w w') (first | exact ⟨Blk.drew (And.left (by assumption)), OwnsInts.drew (And.left (And.right (by assumption))), Below.drew (And.right (And.right (by assumption)))⟩ | assumption) (first | (go_at_call 97; refine (l3Made_any _ _ _ hk9).mono ?_; rintro e w7 ⟨rfl, hb7⟩; have J := owns_step (by assumption) hb7; clear hb7) | fail)
      all_goals
        clear a0 a1 a2 a3 a4 a5 a6 a7 a8 a9 a10 a11 a12 a13 a14 a15 ae iE
        have S1 : Blk w7 w.heap.size 16 f 27 ∧ OwnsInts w7 (w.heap.size + 1) v (symL f k) ∧ Below w.heap.size w w7 := by assumption
        obtain ⟨k1, ho, hb⟩ := S1
        have HB4 := Lib.hid hb
        have hsz := hb.size
        have hn := symL_le f k
        clear hb
        have ho0 : w7.ownsRow (w.heap.size + 1) 3 1 v (symL f k).length ((symL f k).map (Value.int .i64)) := ho
        clear ho
        by_cases hm : sameB (formF f k) f = true
        · have Y := Lib.hid (sym_yes (f := f) (k := k) hm)
          rw [hm]
          clear hm
          go_wp2_with (first | ((with_reducible show wpList _ _ _ (Oper.mk _ (Op.load 27 _) _ _ _ _ :: _) _ _); refine loadB (k1) rfl rfl rfl ?_) | ((with_reducible show wpList _ _ _ (Oper.mk _ (Op.load 25 _) _ _ _ _ :: _) _ _); refine loadG (k1) rfl rfl rfl ?_) | (at_builtin; refine wpList_append_own _ rfl _ _ 31 rfl (w.heap.size + 1) 3 i0 (.int .i64 0) 1 8 Try.underlying31 hi hz0 hz1 hz2 rfl (by decide) _ _ _ rfl (ho0.alloc _) ⟨w7.heap.size, 0, none⟩ 1 1 [.int .i64 k] rfl rfl ?c1 ?c2 ?c3 ?c4 ?c5 ?_))
          case c1 =>
            have := cell_one_new w7 (.int .i64 k) 3
            simpa only [World.size_alloc] using this
          case c2 => simp [Value.oneCell']
          case c3 => unfold maxLen; omega
          case c4 => omega
          case c5 => simp; omega
          intro v' w2 hown' hgrow' _
          obtain ⟨gg, cap, hv'⟩ := ownsRow_succ hown'
          have HV' : Hid (∃ gg cap, v' = .slice (some ⟨gg, 0, none⟩) ((symL f k).length + 1) cap) := ⟨gg, cap, hv'⟩
          have HB2 : Hid (Below w.heap.size w w2) := ((HB4.out).alloc HB4.out.size _).grown hgrow' (by simp; omega) (fun j hj => by have := (ho0.lt j hj).1; omega)
          have K2 := (k1.alloc (.cells #[.int .i64 k] 3)).grown hgrow' (fun e => by have := (ho0.lt _ e.symm).1; omega)
          have HO : Hid (OwnsInts w2 (w.heap.size + 1) v' (symL f k ++ [(k : Int)])) := by
            show OwnsInts _ _ _ _
            unfold OwnsInts
            rw [List.map_append, List.length_append]
            exact hown'
          clear hown' hgrow' ho0 hv' k1
          go_wp2_with fail
          go_roundg g
          case rel => exact ⟨k + 1, _, by omega, by go_num, rfl, by rw [Y.out, List.length_append]; exact HV'.out, by rw [Y.out]; exact HO.out, K2, HB2⟩
          case measure => omega
        · have hm : sameB (formF f k) f = false := by simpa using hm
          have Y := Lib.hid (sym_not (f := f) (k := k) hm)
          rw [hm]
          clear hm
          go_wp2_with fail
          go_roundg g
          case rel => exact ⟨k + 1, _, by omega, by go_num, rfl, by rw [Y.out]; exact HVv.out, by rw [Y.out]; exact ho0, k1, HB4⟩
          case measure => omega
set_option maxHeartbeats 2000000 in
set_option maxRecDepth 20000 in
theorem implSym_any (f : Nat → Int) (w : World) :
    Calls Try.prog 15 #[.agg (mk 16 f)] w fun e w' => ∃ g cap, e = .returned (.tuple #[.slice (some ⟨g, 0, none⟩) (symR f).length cap, .bool (vdO f)]) ∧
      OwnsInts w' w.heap.size (.slice (some ⟨g, 0, none⟩) (symR f).length cap) (symR f) ∧ Below w.heap.size w w' := by
  obtain ⟨i0, hi, hz0, hz1, hz2⟩ := info_parts infoInt
  have z16 := zero16
  have K1 := Blk.new w 16 f 27
  have HB := Lib.hid ((Below.refl w.heap.size w).alloc (Nat.le_refl _) (.cells (mk 16 f) 27))
  by_cases hV : Vd f
  · rw [symR_yes hV, vdO_yes hV]
    go_enter Try.func15, Try.ntmps15
    go_wp2_with ((with_reducible show wpList _ _ _ (Oper.mk _ (Op.load 27 _) _ _ _ _ :: _) _ _); refine loadB (K1) rfl rfl rfl ?_)
    refine (implBoard_yes _ _ hV).mono ?_
    rintro e w1 ⟨rfl, hb⟩
    have K1 := (K1.below hb K1.lt).alloc (.cells #[] 3)
    have HB1 : Hid (Below w.heap.size w w1) := HB.out.trans (hb.mono HB.out.size)
    have HB : Hid (Below w.heap.size w (w1.alloc (.cells #[] 3))) := HB1.out.alloc HB1.out.size _
    have HO : OwnsInts (w1.alloc (.cells #[] 3)) (w.heap.size + 1) (.slice (some ⟨w1.heap.size, 0, none⟩) 0 0) [] :=
      World.ownsRow_made (base := w.heap.size + 1) (e := 3) (size := 1) w1 #[] 0 (by have := hb.size; simpa using this) (by decide) rfl
    clear hb HB1 hV
    go_wp2_with ((with_reducible show wpList _ _ _ (Oper.mk _ (Op.load 27 _) _ _ _ _ :: _) _ _); refine loadB (K1) rfl rfl rfl ?_)
    generalize w1.alloc (.cells #[] 3) = w9 at *
    refine (eightForms_any f _).mono ?_
    rintro e w2 ⟨rfl, hb⟩
    have K1 := K1.below hb K1.lt
    have HO : OwnsInts w2 (w.heap.size + 1) (.slice (some ⟨w1.heap.size, 0, none⟩) 0 0) [] := owns_below HO hb
    have HB : Hid (Below w.heap.size w w2) := HB.out.trans (hb.mono HB.out.size)
    clear hb
    go_wp2_with fail
    go_loopg [4, 14] 8 (fun g s3 s4 wr => ∃ (k : Nat) (v : Value), k + g = 8 ∧ s4 = .int .i64 k ∧ v = s3 ∧ (∃ gg cap, v = .slice (some ⟨gg, 0, none⟩) (symL f k).length cap) ∧ OwnsInts wr (w.heap.size + 1) v (symL f k) ∧ Blk wr w.heap.size 16 f 27 ∧ Hid (Below w.heap.size w wr))
    case atStart => exact ⟨0, _, by omega, rfl, rfl, ⟨_, _, rfl⟩, HO, K1, HB⟩
    case round =>
      obtain ⟨k, v, hkg, rfl, rfl, hv, ho, k1, hb⟩ := hrel
      cases gk with
      | zero =>
        have hk : ¬ ((k : Int) < 8) := by omega
        obtain rfl : k = 8 := by omega
        clear hkg hk
        obtain ⟨gg, cap, rfl⟩ := hv
        go_wp2_with fail
        go_ret2
        exact ⟨gg, cap, rfl, ownsRow_wide ho (by omega), hb.out⟩
      | succ g =>
        have hk8 : (k : Int) < 8 := by omega
        have hk0 : (0 : Int) ≤ (k : Int) := by omega
        have iX : ∀ W, (Instr.index 102 (.agg (mk 128 (eightF f))) (.int .i64 (k : Int))).run Try.prog W = .ok (.agg (mk 16 (formF f k))) W := fun W => (idxE (eightF f) k (by omega) W).trans (by rw [eight_mk])
        have iE : ∀ (f g : Nat → Int) (w : World), (Op.equalIn 10000 25 (.agg (mk 16 f)) (.agg (mk 16 g))).run Try.prog w = .ok (sameB f g) w := eqG 9997
        have k1 := k1.alloc (.cells (mk 16 (formF f k)) 27)
        have k3 := Blk.new wr 16 (formF f k) 27
        have ho0 : (wr.alloc (.cells (mk 16 (formF f k)) 27)).ownsRow (w.heap.size + 1) 3 1 v (symL f k).length ((symL f k).map (Value.int .i64)) := World.ownsRow.alloc ho _
        have HB4 : Hid (Below w.heap.size w (wr.alloc (.cells (mk 16 (formF f k)) 27))) := hb.out.alloc hb.out.size _
        have hn := symL_le f k
        have hsz := hb.out.size
        clear ho hb
        by_cases hm : sameB (formF f k) f = true
        · have Y := Lib.hid (sym_yes (f := f) (k := k) hm)
          have hq := hm
          clear hm
          go_wp2_with (first | ((with_reducible show wpList _ _ _ (Oper.mk _ (Op.load 25 _) _ _ _ _ :: _) _ _); refine loadG (k1) rfl rfl rfl ?_) | ((with_reducible show wpList _ _ _ (Oper.mk _ (Op.load 25 _) _ _ _ _ :: _) _ _); refine loadG (k3) rfl rfl rfl ?_) | (at_builtin; refine wpList_append_own _ rfl _ _ 31 rfl (w.heap.size + 1) 3 i0 (.int .i64 0) 1 8 Try.underlying31 hi hz0 hz1 hz2 rfl (by decide) _ _ _ rfl (ho0.alloc _) ⟨wr.heap.size + 1, 0, none⟩ 1 1 [.int .i64 k] rfl rfl ?c1 ?c2 ?c3 ?c4 ?c5 ?_))
          case c1 =>
            have := cell_one_new (wr.alloc (.cells (mk 16 (formF f k)) 27)) (.int .i64 k) 3
            simpa only [World.size_alloc] using this
          case c2 => simp [Value.oneCell']
          case c3 => unfold maxLen; omega
          case c4 => omega
          case c5 => simp; omega
          intro v' w2 hown' hgrow' _
          obtain ⟨gg, cap, hv'⟩ := ownsRow_succ hown'
          have HV' : Hid (∃ gg cap, v' = .slice (some ⟨gg, 0, none⟩) ((symL f k).length + 1) cap) := ⟨gg, cap, hv'⟩
          have HB2 : Hid (Below w.heap.size w w2) := ((HB4.out).alloc HB4.out.size _).grown hgrow' (by simp; omega) (fun j hj => by have := (ho0.lt j hj).1; omega)
          have K2 := (k1.alloc (.cells #[.int .i64 k] 3)).grown hgrow' (fun e => by have := (ho0.lt _ e.symm).1; omega)
          have HO : Hid (OwnsInts w2 (w.heap.size + 1) v' (symL f k ++ [(k : Int)])) := by
            show OwnsInts _ _ _ _
            unfold OwnsInts
            rw [List.map_append, List.length_append]
            exact hown'
          clear hown' hgrow' ho0 hv' k1 k3
          go_wp2_with fail
          go_roundg g
          case rel => exact ⟨k + 1, _, by omega, by go_num, rfl, by rw [Y.out, List.length_append]; exact HV'.out, by rw [Y.out]; exact HO.out, K2, HB2⟩
          case measure => omega
        · have hq : sameB (formF f k) f = false := by simpa using hm
          have Y := Lib.hid (sym_not (f := f) (k := k) hq)
          clear hm
          go_wp2_with (first | ((with_reducible show wpList _ _ _ (Oper.mk _ (Op.load 25 _) _ _ _ _ :: _) _ _); refine loadG (k1) rfl rfl rfl ?_) | ((with_reducible show wpList _ _ _ (Oper.mk _ (Op.load 25 _) _ _ _ _ :: _) _ _); refine loadG (k3) rfl rfl rfl ?_))
          go_roundg g
          case rel => exact ⟨k + 1, _, by omega, by go_num, rfl, by rw [Y.out]; exact hv, by rw [Y.out]; exact ho0, k1, HB4⟩
          case measure => omega
  · rw [symR_no hV, vdO_no hV]
    go_enter Try.func15, Try.ntmps15
    go_wp2_with ((with_reducible show wpList _ _ _ (Oper.mk _ (Op.load 27 _) _ _ _ _ :: _) _ _); refine loadB (K1) rfl rfl rfl ?_)
    refine (implBoard_no _ _ hV).mono ?_
    rintro e w1 ⟨rfl, hb⟩
    have HB1 : Hid (Below w.heap.size w w1) := HB.out.trans (hb.mono HB.out.size)
    clear hb HB K1 hV
    have HO := Lib.hid (World.ownsRow_made (base := w.heap.size) (e := 3) (size := 1) w1 #[] 0 HB1.out.size (by decide) rfl)
    have HB2 : Hid (Below w.heap.size w (w1.alloc (.cells #[] 3))) := HB1.out.alloc HB1.out.size _
    go_wp2_with fail
    go_ret2
    exact ⟨_, _, rfl, HO.out, HB2.out⟩
set_option maxHeartbeats 1000000 in
theorem specSym_any (f : Nat → Int) (w : World) :
    Calls Try.prog 16 #[.agg (mk 16 f)] w fun e w' => ∃ g cap, e = .returned (.tuple #[.slice (some ⟨g, 0, none⟩) (symR f).length cap, .bool (vdO f)]) ∧
      OwnsInts w' w.heap.size (.slice (some ⟨g, 0, none⟩) (symR f).length cap) (symR f) ∧ Below w.heap.size w w' := by
  have K1 := Blk.new w 16 f 27
  have HB := Lib.hid ((Below.refl w.heap.size w).alloc (Nat.le_refl _) (.cells (mk 16 f) 27))
  by_cases hV : Vd f
  · rw [symR_yes hV, vdO_yes hV]
    go_enter Try.func16, Try.ntmps16
    go_wp2_with ((with_reducible show wpList _ _ _ (Oper.mk _ (Op.load 27 _) _ _ _ _ :: _) _ _); refine loadB (K1) rfl rfl rfl ?_)
    refine (l2Board_yes _ _ hV).mono ?_
    rintro e w1 ⟨rfl, hb⟩
    have k1 := K1.below hb K1.lt
    have HB1 : Hid (Below w.heap.size w w1) := HB.out.trans (hb.mono HB.out.size)
    clear hb HB K1 hV
    go_wp2_with ((with_reducible show wpList _ _ _ (Oper.mk _ (Op.load 27 _) _ _ _ _ :: _) _ _); refine loadB (k1) rfl rfl rfl ?_)
    refine (l3Same_any f _).mono ?_
    rintro e w2 ⟨g, cap, rfl, ho, hb⟩
    have HB2 : Hid (Below w.heap.size w w2) := HB1.out.trans (hb.mono HB1.out.size)
    have HO := Lib.hid (ownsRow_wide ho HB1.out.size)
    clear hb ho HB1
    go_wp2_with fail
    go_ret2
    exact ⟨g, cap, rfl, HO.out, HB2.out⟩
  · rw [symR_no hV, vdO_no hV]
    go_enter Try.func16, Try.ntmps16
    go_wp2_with ((with_reducible show wpList _ _ _ (Oper.mk _ (Op.load 27 _) _ _ _ _ :: _) _ _); refine loadB (K1) rfl rfl rfl ?_)
    refine (l2Board_no _ _ hV).mono ?_
    rintro e w1 ⟨rfl, hb⟩
    have HB1 : Hid (Below w.heap.size w w1) := HB.out.trans (hb.mono HB.out.size)
    clear hb HB K1 hV
    have HO := Lib.hid (World.ownsRow_made (base := w.heap.size) (e := 3) (size := 1) w1 #[] 0 HB1.out.size (by decide) rfl)
    have HB2 : Hid (Below w.heap.size w (w1.alloc (.cells #[] 3))) := HB1.out.alloc HB1.out.size _
    go_wp2_with fail
    go_ret2
    exact ⟨_, _, rfl, HO.out, HB2.out⟩
theorem cfm_at {f : Nat → Int} (h : Vd f) {n : Nat} (hn : (symL f 8).length = n) : cfmR f = (8 : Int).tdiv n := by rw [← hn]; simp [cfmR, h]
theorem cfm_no {f : Nat → Int} (h : ¬ Vd f) : cfmR f = 0 := by simp [cfmR, h]
set_option maxHeartbeats 1000000 in
theorem specCount8_any (f : Nat → Int) (w : World) :
    Calls Try.prog 18 #[.agg (mk 16 f)] w fun e w' => e = .returned (.tuple #[.int .i64 (cfmR f), .bool (vdO f)]) ∧ Below w.heap.size w w' := by
  have K1 := Blk.new w 16 f 27
  have HB := Lib.hid ((Below.refl w.heap.size w).alloc (Nat.le_refl _) (.cells (mk 16 f) 27))
  by_cases hV : Vd f
  · have hp := symL_pos f 8 (by omega)
    have hl := symL_le f 8
    have HC := Lib.hid (fun n hn => cfm_at (f := f) hV (n := n) hn)
    rw [vdO_yes hV]
    go_enter Try.func18, Try.ntmps18
    go_wp2_with ((with_reducible show wpList _ _ _ (Oper.mk _ (Op.load 27 _) _ _ _ _ :: _) _ _); refine loadB (K1) rfl rfl rfl ?_)
    refine (l2Board_yes _ _ hV).mono ?_
    rintro e w1 ⟨rfl, hb⟩
    have k1 := K1.below hb K1.lt
    have HB1 : Hid (Below w.heap.size w w1) := HB.out.trans (hb.mono HB.out.size)
    clear hb HB K1 hV
    go_wp2_with ((with_reducible show wpList _ _ _ (Oper.mk _ (Op.load 27 _) _ _ _ _ :: _) _ _); refine loadB (k1) rfl rfl rfl ?_)
    refine (l3Same_any f _).mono ?_
    rintro e w2 ⟨g, cap, rfl, _, hb⟩
    have HB2 : Hid (Below w.heap.size w w2) := HB1.out.trans (hb.mono HB1.out.size)
    clear hb HB1 k1
    obtain ⟨n, hn⟩ : ∃ n, (symL f 8).length = n := ⟨_, rfl⟩
    have HC := Lib.hid (HC.out n hn)
    rw [hn] at hp hl ⊢
    clear hn
    rcases (by omega : n = 1 ∨ n = 2 ∨ n = 3 ∨ n = 4 ∨ n = 5 ∨ n = 6 ∨ n = 7 ∨ n = 8) with rfl | rfl | rfl | rfl | rfl | rfl | rfl | rfl
    all_goals
      go_wp2_with fail
      go_ret2
      exact ⟨by rw [HC.out]; rfl, HB2.out⟩
  · rw [cfm_no hV, vdO_no hV]
    go_enter Try.func18, Try.ntmps18
    go_wp2_with ((with_reducible show wpList _ _ _ (Oper.mk _ (Op.load 27 _) _ _ _ _ :: _) _ _); refine loadB (K1) rfl rfl rfl ?_)
    refine (l2Board_no _ _ hV).mono ?_
    rintro e w1 ⟨rfl, hb⟩
    have HB1 : Hid (Below w.heap.size w w1) := HB.out.trans (hb.mono HB.out.size)
    clear hb HB K1 hV
    go_wp2_with fail
    go_ret2
    exact ⟨rfl, HB1.out⟩
set_option maxHeartbeats 1000000 in
theorem implCount8_any (f : Nat → Int) (w : World) :
    Calls Try.prog 17 #[.agg (mk 16 f)] w fun e w' => e = .returned (.tuple #[.int .i64 (cfmR f), .bool (vdO f)]) ∧ Below w.heap.size w w' := by
  have K1 := Blk.new w 16 f 27
  have HB := Lib.hid ((Below.refl w.heap.size w).alloc (Nat.le_refl _) (.cells (mk 16 f) 27))
  by_cases hV : Vd f
  · have hp := symL_pos f 8 (by omega)
    have hl := symL_le f 8
    have HC := Lib.hid (fun n hn => cfm_at (f := f) hV (n := n) hn)
    have HS := Lib.hid (symR_yes hV)
    have HO := Lib.hid (vdO_yes hV)
    rw [HO.out]
    go_enter Try.func17, Try.ntmps17
    go_wp2_with ((with_reducible show wpList _ _ _ (Oper.mk _ (Op.load 27 _) _ _ _ _ :: _) _ _); refine loadB (K1) rfl rfl rfl ?_)
    refine (implSym_any f _).mono ?_
    rw [HS.out, HO.out]
    rintro e w2 ⟨g, cap, rfl, _, hb⟩
    have HB2 : Hid (Below w.heap.size w w2) := HB.out.trans (hb.mono HB.out.size)
    clear hb HB K1 hV
    obtain ⟨n, hn⟩ : ∃ n, (symL f 8).length = n := ⟨_, rfl⟩
    have HC := Lib.hid (HC.out n hn)
    rw [hn] at hp hl ⊢
    clear hn
    rcases (by omega : n = 1 ∨ n = 2 ∨ n = 3 ∨ n = 4 ∨ n = 5 ∨ n = 6 ∨ n = 7 ∨ n = 8) with rfl | rfl | rfl | rfl | rfl | rfl | rfl | rfl
    all_goals
      go_wp2_with fail
      go_ret2
      exact ⟨by rw [HC.out]; rfl, HB2.out⟩
  · have HO := Lib.hid (vdO_no hV)
    rw [cfm_no hV, HO.out]
    go_enter Try.func17, Try.ntmps17
    go_wp2_with ((with_reducible show wpList _ _ _ (Oper.mk _ (Op.load 27 _) _ _ _ _ :: _) _ _); refine loadB (K1) rfl rfl rfl ?_)
    refine (implSym_any f _).mono ?_
    rw [HO.out]
    rintro e w2 ⟨g, cap, rfl, _, hb⟩
    have HB2 : Hid (Below w.heap.size w w2) := HB.out.trans (hb.mono HB.out.size)
    clear hb HB K1 hV
    go_wp2_with fail
    go_ret2
    exact ⟨rfl, HB2.out⟩
end Go.Proofs.Ytpiegllffkjneaa
