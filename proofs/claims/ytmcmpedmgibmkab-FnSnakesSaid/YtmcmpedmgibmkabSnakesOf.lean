/-
  The contracts of SnakesOf in the reference and in the program, for every board.
-/
import Derived.Test.YtmcmpedmgibmkabFallCells
import Derived.Test.YtmcmpedmgibmkabRowsKit
namespace Go.Proofs.Ytmcmpedmgibmkab
open Go.RowKit Plain
attribute [local go_sem] store_new
set_option linter.unusedVariables false
set_option linter.unusedSimpArgs false
theorem cellsC2 : Try.prog.cellsOf 22 = 2 := by kernel_rfl
def sameP (f g : Nat → Int) : Bool := (List.range 16).all fun r => (List.range 2).all fun c => f (r * 2 + c) == g (r * 2 + c)
theorem eqC2 (d : Nat) (f g : Nat → Int) (w : World) : (Op.equalIn (d + 2) 22 (.agg (mk 2 f)) (.agg (mk 2 g))).run Try.prog w = .ok ((List.range 2).all fun c => f c == g c) w := by
  cases hq : Try.prog.info? 3 with
  | none => have := size1; simp [hq] at this
  | some i =>
    rw [run_equalIn_array w (d + 1) (mk 2 f) (mk 2 g) Try.underlying22 hq, cells1]
    exact items_all _ _ _ _ _ _ (fun c => .int .i64 (f c)) (fun c => .int .i64 (g c)) (fun c => f c == g c) _ fun c hc => by
      have hc4 : c < 2 := List.mem_range.1 hc
      exact ⟨part_int Try.underlying3 f hc4 w, part_int Try.underlying3 g hc4 w, run_equalIn_int w d _ _ _ _ _ Try.underlying3⟩
theorem eqP (d : Nat) (f g : Nat → Int) (w : World) : (Op.equalIn (d + 3) 23 (.agg (mk 32 f)) (.agg (mk 32 g))).run Try.prog w = .ok (sameP f g) w := by
  cases hq : Try.prog.info? 22 with
  | none => have := sizeC; simp [hq] at this
  | some i =>
    rw [run_equalIn_array w (d + 2) (mk 32 f) (mk 32 g) Try.underlying23 hq, cellsC2]
    exact items_all _ _ _ _ _ _ (fun r => .agg (mk 2 fun c => f (r * 2 + c))) (fun r => .agg (mk 2 fun c => g (r * 2 + c))) (fun r => (List.range 2).all fun c => f (r * 2 + c) == g (r * 2 + c)) _ fun r hr => by
      have hr4 : r < 16 := List.mem_range.1 hr
      exact ⟨part_row Try.underlying22 rfl sizeC f (by omega) w, part_row Try.underlying22 rfl sizeC g (by omega) w, eqC2 d _ _ w⟩
theorem sameP_iff {f g : Nat → Int} : sameP f g = true ↔ ∀ j, j < 32 → f j = g j := by
  unfold sameP
  constructor
  · intro h j hj
    have h1 := all_at (P := fun r => (List.range 2).all fun c => f (r * 2 + c) == g (r * 2 + c)) h (i := j / 2) (by omega)
    have h2 := all_at (P := fun c => f (j / 2 * 2 + c) == g (j / 2 * 2 + c)) h1 (i := j % 2) (by omega)
    rw [show j / 2 * 2 + j % 2 = j by omega] at h2
    simpa using h2
  · intro h
    refine List.all_eq_true.2 fun r hr => List.all_eq_true.2 fun c hc => ?_
    have h1 := List.mem_range.1 hr
    have h2 := List.mem_range.1 hc
    rw [h (r * 2 + c) (by omega)]
    simp
theorem same_ord {f : Nat → Int} {k : Nat} (hk : k < 8) : sameP (flP (fsD f (dpF k))) (spF k) = ordF f k := by
  rcases h : ordF f k with _ | _
  · cases h2 : sameP (flP (fsD f (dpF k))) (spF k) with
    | false => rfl
    | true => rw [(fs_ord hk).1 (sameP_iff.1 h2)] at h; cases h
  · exact sameP_iff.2 ((fs_ord hk).2 h)
theorem execPP {o : Oper} {ev : Operand → Value} {w : World} {b : Nat} {f : Nat → Int} {t : TypeId} {x : Operand} (hg : Blk w b 32 f t) (ho : o.op = .load 23 x) (hx : ev x = .pointer (some ⟨b, 0, none⟩)) :
    (execOp ev o).run Try.prog w = .ok (.value (.agg (mk 32 f))) w := exec_load_blk _ x ho hx hg Try.underlying23 rfl sizeP
set_option maxHeartbeats 4000000 in
set_option maxRecDepth 20000 in
theorem specSnakes_any (f : Nat → Int) (w : World) :
    Calls Try.prog 10 #[.agg (mk 16 f)] w fun e w' => ∃ g cap, e = .returned (.tuple #[.slice (some ⟨g, 0, none⟩) (snLR f).length cap, .bool (vdO f)]) ∧
      OwnsInts w' w.heap.size (.slice (some ⟨g, 0, none⟩) (snLR f).length cap) (snLR f) ∧ Below w.heap.size w w' := by
  obtain ⟨i0, hi, hz0, hz1, hz2⟩ := info_parts infoInt
  have z16 := zero16
  have z32 := zero32
  have K1 := (Blk.new w 16 f 35).alloc (.cells #[] 3)
  have HB := Lib.hid (((Below.refl w.heap.size w).alloc (Nat.le_refl _) (.cells (mk 16 f) 35)).alloc (by simp) (.cells #[] 3))
  have HO : OwnsInts ((w.alloc (.cells (mk 16 f) 35)).alloc (.cells #[] 3)) (w.heap.size + 1) (.slice (some ⟨w.heap.size + 1, 0, none⟩) 0 0) [] := by
    have := World.ownsRow_made (base := w.heap.size + 1) (e := 3) (size := 1) (w.alloc (.cells (mk 16 f) 35)) #[] 0 (by simp) (by decide) rfl
    simp only [World.size_alloc] at this
    exact this
  by_cases hV : Vd f
  · rw [snLR_yes hV, vdO_yes hV]
    have HV := Lib.hid (fun w => l2Board_yes f w hV)
    clear hV
    go_enter Try.func10, Try.ntmps10
    go_wp2_with ((with_reducible show wpList _ _ _ (Oper.mk _ (Op.load 35 _) _ _ _ _ :: _) _ _); refine loadB (K1) rfl rfl rfl ?_)
    refine (HV.out _).mono ?_
    rintro e w1 ⟨rfl, hb⟩
    have K1 := K1.below hb K1.lt
    have HO : OwnsInts w1 (w.heap.size + 1) (.slice (some ⟨w.heap.size + 1, 0, none⟩) 0 0) [] := owns_below HO hb
    have HB : Hid (Below w.heap.size w w1) := HB.out.trans (hb.mono HB.out.size)
    clear hb
    go_wp2_with fail
    go_loopg [4, 5] 8 (fun g s4 s5 wr => ∃ (k : Nat) (v : Value), k + g = 8 ∧ s5 = .int .i64 k ∧ v = s4 ∧ (∃ gg cap, v = .slice (some ⟨gg, 0, none⟩) (snG (ordF f) k).length cap) ∧ OwnsInts wr (w.heap.size + 1) v (snG (ordF f) k) ∧ Blk wr w.heap.size 16 f 35 ∧ Hid (Below w.heap.size w wr))
    case atStart => exact ⟨0, _, by omega, rfl, rfl, ⟨_, _, rfl⟩, HO, K1, HB⟩
    case round =>
      clear K1 HB HO
      obtain ⟨k, v, hkg, rfl, rfl, hv, ho, K1, HB⟩ := hrel
      cases gk with
      | zero =>
        have hd : ¬ ((k : Int) < 8) := by omega
        obtain rfl : k = 8 := by omega
        clear hkg hd
        obtain ⟨gg, cap, rfl⟩ := hv
        go_wp2_with fail
        go_ret2
        exact ⟨gg, cap, rfl, ownsRow_wide ho (by omega), HB.out⟩
      | succ g =>
        have hk8 : (k : Int) < 8 := by omega
        have HL := Lib.hid (fun w => l7Ordered_any f k w (by omega))
        go_wp2_with ((with_reducible show wpList _ _ _ (Oper.mk _ (Op.load 35 _) _ _ _ _ :: _) _ _); refine loadB (K1) rfl rfl rfl ?_)
        refine (HL.out _).mono ?_
        rintro e w2 ⟨rfl, hb⟩
        have K1 := K1.below hb K1.lt
        have ho0 : w2.ownsRow (w.heap.size + 1) 3 1 v (snG (ordF f) k).length ((snG (ordF f) k).map (Value.int .i64)) := owns_below ho hb
        have HB : Hid (Below w.heap.size w w2) := HB.out.trans (hb.mono HB.out.size)
        clear hb ho HL
        by_cases hq : ordF f k = true
        · rw [hq]
          have hn4 : (snG (ordF f) k).length ≤ 8 := by have := snG_le (ordF f) k; omega
          have hsz := HB.out.size
          have Y := Lib.hid (snG_yes (Q := ordF f) (k := k) hq)
          go_wp2_with (first | (at_builtin; refine wpList_append_own _ rfl _ _ 32 rfl (w.heap.size + 1) 3 i0 (.int .i64 0) 1 8 Try.underlying32 hi hz0 hz1 hz2 rfl (by decide) _ _ _ rfl (ho0.alloc _) ⟨w2.heap.size, 0, none⟩ 1 1 [.int .i64 k] rfl rfl ?c1 ?c2 ?c3 ?c4 ?c5 ?_))
          case c1 => exact cell_one_new w2 (.int .i64 (k : Int)) 3
          case c2 => simp [Value.oneCell']
          case c3 => unfold maxLen; omega
          case c4 => omega
          case c5 => simp; omega
          intro v' x9 hown' hgrow' _
          have HV' : Hid (∃ gg cap, v' = .slice (some ⟨gg, 0, none⟩) ((snG (ordF f) k).length + 1) cap) := ownsRow_succ hown'
          have HB2 : Hid (Below w.heap.size w x9) := (HB.out.alloc hsz _).grown hgrow' (by simp; omega) (fun j hj => by have := (ho0.lt j hj).1; omega)
          have K1 := (K1.alloc (.cells #[.int .i64 k] 3)).grown hgrow' (fun e => by have := (ho0.lt _ e.symm).1; omega)
          have HO : Hid (OwnsInts x9 (w.heap.size + 1) v' (snG (ordF f) k ++ [(k : Int)])) := by
            show OwnsInts _ _ _ _
            unfold OwnsInts
            rw [List.map_append, List.length_append]
            exact hown'
          clear hown' hgrow' ho0
          go_wp2_with fail
          go_roundg g
          case rel => exact ⟨k + 1, _, by omega, by go_num, rfl, by rw [Y.out, List.length_append]; exact HV'.out, by rw [Y.out]; exact HO.out, K1, HB2⟩
          case measure => omega
        · replace hq : ordF f k = false := by simpa using hq
          rw [hq]
          have Y := Lib.hid (snG_no (Q := ordF f) (k := k) hq)
          go_wp2_with fail
          go_roundg g
          case rel => exact ⟨k + 1, _, by omega, by go_num, rfl, by rw [Y.out]; exact hv, by rw [Y.out]; exact ho0, K1, HB⟩
          case measure => omega
  · rw [snLR_no hV, vdO_no hV]
    have HV := Lib.hid (fun w => l2Board_no f w hV)
    clear hV
    go_enter Try.func10, Try.ntmps10
    go_wp2_with ((with_reducible show wpList _ _ _ (Oper.mk _ (Op.load 35 _) _ _ _ _ :: _) _ _); refine loadB (K1) rfl rfl rfl ?_)
    refine (HV.out _).mono ?_
    rintro e w1 ⟨rfl, hb⟩
    have HO : OwnsInts w1 (w.heap.size + 1) (.slice (some ⟨w.heap.size + 1, 0, none⟩) 0 0) [] := owns_below HO hb
    have HB : Hid (Below w.heap.size w w1) := HB.out.trans (hb.mono HB.out.size)
    clear hb
    go_wp2_with fail
    go_ret2
    exact ⟨_, _, rfl, ownsRow_wide HO (by omega), HB.out⟩
set_option maxHeartbeats 4000000 in
set_option maxRecDepth 20000 in
theorem implSnakes_any (f : Nat → Int) (w : World) :
    Calls Try.prog 12 #[.agg (mk 16 f)] w fun e w' => ∃ g cap, e = .returned (.tuple #[.slice (some ⟨g, 0, none⟩) (snLR f).length cap, .bool (vdO f)]) ∧
      OwnsInts w' w.heap.size (.slice (some ⟨g, 0, none⟩) (snLR f).length cap) (snLR f) ∧ Below w.heap.size w w' := by
  obtain ⟨i0, hi, hz0, hz1, hz2⟩ := info_parts infoInt
  have z16 := zero16
  have z32 := zero32
  have K1 := Blk.new w 16 f 35
  have HB := Lib.hid ((Below.refl w.heap.size w).alloc (Nat.le_refl _) (.cells (mk 16 f) 35))
  by_cases hV : Vd f
  · rw [snLR_yes hV, vdO_yes hV]
    have HV := Lib.hid (fun w => implBoard_yes f w hV)
    clear hV
    go_enter Try.func12, Try.ntmps12
    go_wp2_with ((with_reducible show wpList _ _ _ (Oper.mk _ (Op.load 35 _) _ _ _ _ :: _) _ _); refine loadB (K1) rfl rfl rfl ?_)
    refine (HV.out _).mono ?_
    rintro e w1 ⟨rfl, hb⟩
    have hlt := K1.lt
    have K1 := (K1.below hb K1.lt)
    have hlt1 := K1.lt
    have K1 := K1.alloc (.cells #[] 3)
    have HB := HB.out.trans (hb.mono HB.out.size)
    have HB : Hid (Below w.heap.size w (w1.alloc (.cells #[] 3))) := HB.alloc HB.size _
    have HO : OwnsInts (w1.alloc (.cells #[] 3)) (w.heap.size + 1) (.slice (some ⟨w1.heap.size, 0, none⟩) 0 0) [] :=
      World.ownsRow_made (base := w.heap.size + 1) (e := 3) (size := 1) w1 #[] 0 (by omega) (by decide) rfl
    clear hb hlt hlt1
    go_wp2_with fail
    go_loopg [4, 12] 8 (fun g s4 s5 wr => ∃ (k : Nat) (v : Value), k + g = 8 ∧ s5 = .int .i64 k ∧ v = s4 ∧ (∃ gg cap, v = .slice (some ⟨gg, 0, none⟩) (snG (ordF f) k).length cap) ∧ OwnsInts wr (w.heap.size + 1) v (snG (ordF f) k) ∧ Blk wr w.heap.size 16 f 35 ∧ Hid (Below w.heap.size w wr))
    case atStart => exact ⟨0, _, by omega, rfl, rfl, ⟨_, _, rfl⟩, HO, K1, HB⟩
    case round =>
      clear K1 HB HO
      obtain ⟨k, v, hkg, rfl, rfl, hv, ho, K1, HB⟩ := hrel
      cases gk with
      | zero =>
        have hd : ¬ ((k : Int) < 8) := by omega
        obtain rfl : k = 8 := by omega
        clear hkg hd
        obtain ⟨gg, cap, rfl⟩ := hv
        go_wp2_with fail
        go_ret2
        exact ⟨gg, cap, rfl, ownsRow_wide ho (by omega), HB.out⟩
      | succ g =>
        have hk8 : (k : Int) < 8 := by omega
        have HP := Lib.hid (fun w => snakePath_any k w (by omega))
        have HDF := Lib.hid (fun j hj => dp_flat (k := k) (by omega) j hj)
        have HSO : Hid (sameP (flP (fsD f (dpF k))) (spF k) = ordF f k) := same_ord (by omega)
        go_wp2_with fail
        refine (HP.out _).mono ?_
        rintro e w2 ⟨rfl, hb⟩
        have K1 := (K1.below hb K1.lt).alloc (.cells (mk 32 (spF k)) 23)
        have ho : OwnsInts (w2.alloc (.cells (mk 32 (spF k)) 23)) (w.heap.size + 1) v (snG (ordF f) k) := World.ownsRow.alloc (owns_below ho hb) _
        have HB := HB.out.trans (hb.mono HB.out.size)
        have HB : Hid (Below w.heap.size w (w2.alloc (.cells (mk 32 (spF k)) 23))) := HB.alloc HB.size _
        have K6 := Blk.new w2 32 (spF k) 23
        clear hb HP
        go_wp2_with fail
        generalize w2.alloc (.cells (mk 32 (spF k)) 23) = w3 at *
        generalize w2.heap.size = b6 at *
        by_cases hq : ordF f k = true
        · rw [hq] at HSO
          have HIE : Hid (∀ W : World, (Op.equalIn 10000 23 (.agg (mk 32 (flP (fsD f (dpF k))))) (.agg (mk 32 (spF k)))).run Try.prog W = .ok true W) := fun W => by rw [eqP 9997, HSO.out]
          refine wp_region_held_drew (S := fun W => Blk W w.heap.size 16 f 35 ∧ Blk W b6 32 (spF k) 23) (by kernel_rfl) (⟨K1.drew, K6.drew⟩) (fun hHeld => ?_)
          have K1 : Blk w3.drew w.heap.size 16 f 35 := K1.drew
          have K6 : Blk w3.drew b6 32 (spF k) 23 := K6.drew
          have ho : OwnsInts w3.drew (w.heap.size + 1) v (snG (ordF f) k) := owns_below ho (Below.refl _ w3).drew
          have HB : Hid (Below w.heap.size w w3.drew) := HB.out.drew
          generalize w3.drew = x0 at *
          refine wpAnyH_take (i := 0) (oi := { dst := some 17, op := _, type := _, pos := _, after := _, guard := _ }) (v := .agg (mk 16 f)) rfl (by kernel_rfl) (by kernel_rfl) (by kernel_rfl) (fun _ _ _ h => h) (Or.inl ⟨by rfl, fun _ q => execB q.1 rfl rfl⟩) (by assumption) ?_
          try simp only [Act.put, List.setIfInBounds_toArray, List.set_cons_zero, List.set_cons_succ]
          refine wpAnyH_take (i := 1) (oi := { dst := some 18, op := _, type := _, pos := _, after := _, guard := _ }) (v := .slice (some ⟨b6, 0, none⟩) 16 16) rfl (by kernel_rfl) (by kernel_rfl) (by kernel_rfl) (fun _ _ _ h => h) (Or.inl ⟨by rfl, by intro w hSw; clear hSw; go_simp; (try with_reducible rfl)⟩) (by assumption) ?_
          try simp only [Act.put, List.setIfInBounds_toArray, List.set_cons_zero, List.set_cons_succ]
          refine wpAnyH_take (i := 3) (oi := { dst := some 20, op := _, type := _, pos := _, after := _, guard := _ }) (v := .agg (mk 32 (spF k))) rfl (by kernel_rfl) (by kernel_rfl) (by kernel_rfl) (fun _ _ _ h => h) (Or.inl ⟨by rfl, fun _ q => execPP q.2 rfl rfl⟩) (by assumption) ?_
          try simp only [Act.put, List.setIfInBounds_toArray, List.set_cons_zero, List.set_cons_succ]
          refine wpAnyH_ready (rs := [2]) (by kernel_rfl) (by simp) ?_
          refine AllReadyH.cons rfl (fun K hK => ?_) AllReadyH.nil
          go_simp
          refine (falling_any f (dpF k) b6 _ ((K6.congr (fun j hj => (HDF.out j hj).symm)).at) (dp_size k)).mono ?_
          rintro e w5 ⟨rfl, hb⟩
          have K1 := K1.below hb K1.lt
          have K6 := K6.below hb K6.lt
          have ho : OwnsInts w5 (w.heap.size + 1) v (snG (ordF f) k) := owns_below ho hb
          have HB : Hid (Below w.heap.size w w5) := HB.out.trans (hb.mono HB.out.size)
          clear hb hHeld
          go_wp2_with fail
          refine hK.out _ _ ⟨K1, K6⟩ (fun hHeld => ?_)
          clear hK K
          try simp only [Act.put, List.setIfInBounds_toArray, List.set_cons_zero, List.set_cons_succ]
          refine wpAnyH_take (i := 4) (oi := { dst := some 21, op := _, type := _, pos := _, after := _, guard := _ }) (v := .bool true) rfl (by kernel_rfl) (by kernel_rfl) (by kernel_rfl) (fun _ _ _ h => h) (Or.inl ⟨by rfl, by intro W hSw; clear hSw; have iE := HIE.out W; go_simp⟩) (by assumption) ?_
          try simp only [Act.put, List.setIfInBounds_toArray, List.set_cons_zero, List.set_cons_succ]
          refine wpAnyH_done (by kernel_rfl) ?_ _
          clear hHeld
          have ho0 : w5.ownsRow (w.heap.size + 1) 3 1 v (snG (ordF f) k).length ((snG (ordF f) k).map (Value.int .i64)) := ho
          clear ho
          have hn4 : (snG (ordF f) k).length ≤ 8 := by have := snG_le (ordF f) k; omega
          have hsz := HB.out.size
          have Y := Lib.hid (snG_yes (Q := ordF f) (k := k) hq)
          go_wp2_with (first | (at_builtin; refine wpList_append_own _ rfl _ _ 32 rfl (w.heap.size + 1) 3 i0 (.int .i64 0) 1 8 Try.underlying32 hi hz0 hz1 hz2 rfl (by decide) _ _ _ rfl (ho0.alloc _) ⟨w5.heap.size, 0, none⟩ 1 1 [.int .i64 k] rfl rfl ?c1 ?c2 ?c3 ?c4 ?c5 ?_))
          case c1 => exact cell_one_new w5 (.int .i64 (k : Int)) 3
          case c2 => simp [Value.oneCell']
          case c3 => unfold maxLen; omega
          case c4 => omega
          case c5 => simp; omega
          intro v' x9 hown' hgrow' _
          have HV' : Hid (∃ gg cap, v' = .slice (some ⟨gg, 0, none⟩) ((snG (ordF f) k).length + 1) cap) := ownsRow_succ hown'
          have HB2 : Hid (Below w.heap.size w x9) := (HB.out.alloc hsz _).grown hgrow' (by simp; omega) (fun j hj => by have := (ho0.lt j hj).1; omega)
          have K1 := (K1.alloc (.cells #[.int .i64 k] 3)).grown hgrow' (fun e => by have := (ho0.lt _ e.symm).1; omega)
          have HO : Hid (OwnsInts x9 (w.heap.size + 1) v' (snG (ordF f) k ++ [(k : Int)])) := by
            show OwnsInts _ _ _ _
            unfold OwnsInts
            rw [List.map_append, List.length_append]
            exact hown'
          clear hown' hgrow' ho0
          go_wp2_with fail
          go_roundg g
          case rel => exact ⟨k + 1, _, by omega, by go_num, rfl, by rw [Y.out, List.length_append]; exact HV'.out, by rw [Y.out]; exact HO.out, K1, HB2⟩
          case measure => omega
        · replace hq : ordF f k = false := by simpa using hq
          rw [hq] at HSO
          have HIE : Hid (∀ W : World, (Op.equalIn 10000 23 (.agg (mk 32 (flP (fsD f (dpF k))))) (.agg (mk 32 (spF k)))).run Try.prog W = .ok false W) := fun W => by rw [eqP 9997, HSO.out]
          refine wp_region_held_drew (S := fun W => Blk W w.heap.size 16 f 35 ∧ Blk W b6 32 (spF k) 23) (by kernel_rfl) (⟨K1.drew, K6.drew⟩) (fun hHeld => ?_)
          have K1 : Blk w3.drew w.heap.size 16 f 35 := K1.drew
          have K6 : Blk w3.drew b6 32 (spF k) 23 := K6.drew
          have ho : OwnsInts w3.drew (w.heap.size + 1) v (snG (ordF f) k) := owns_below ho (Below.refl _ w3).drew
          have HB : Hid (Below w.heap.size w w3.drew) := HB.out.drew
          generalize w3.drew = x0 at *
          refine wpAnyH_take (i := 0) (oi := { dst := some 17, op := _, type := _, pos := _, after := _, guard := _ }) (v := .agg (mk 16 f)) rfl (by kernel_rfl) (by kernel_rfl) (by kernel_rfl) (fun _ _ _ h => h) (Or.inl ⟨by rfl, fun _ q => execB q.1 rfl rfl⟩) (by assumption) ?_
          try simp only [Act.put, List.setIfInBounds_toArray, List.set_cons_zero, List.set_cons_succ]
          refine wpAnyH_take (i := 1) (oi := { dst := some 18, op := _, type := _, pos := _, after := _, guard := _ }) (v := .slice (some ⟨b6, 0, none⟩) 16 16) rfl (by kernel_rfl) (by kernel_rfl) (by kernel_rfl) (fun _ _ _ h => h) (Or.inl ⟨by rfl, by intro w hSw; clear hSw; go_simp; (try with_reducible rfl)⟩) (by assumption) ?_
          try simp only [Act.put, List.setIfInBounds_toArray, List.set_cons_zero, List.set_cons_succ]
          refine wpAnyH_take (i := 3) (oi := { dst := some 20, op := _, type := _, pos := _, after := _, guard := _ }) (v := .agg (mk 32 (spF k))) rfl (by kernel_rfl) (by kernel_rfl) (by kernel_rfl) (fun _ _ _ h => h) (Or.inl ⟨by rfl, fun _ q => execPP q.2 rfl rfl⟩) (by assumption) ?_
          try simp only [Act.put, List.setIfInBounds_toArray, List.set_cons_zero, List.set_cons_succ]
          refine wpAnyH_ready (rs := [2]) (by kernel_rfl) (by simp) ?_
          refine AllReadyH.cons rfl (fun K hK => ?_) AllReadyH.nil
          go_simp
          refine (falling_any f (dpF k) b6 _ ((K6.congr (fun j hj => (HDF.out j hj).symm)).at) (dp_size k)).mono ?_
          rintro e w5 ⟨rfl, hb⟩
          have K1 := K1.below hb K1.lt
          have K6 := K6.below hb K6.lt
          have ho : OwnsInts w5 (w.heap.size + 1) v (snG (ordF f) k) := owns_below ho hb
          have HB : Hid (Below w.heap.size w w5) := HB.out.trans (hb.mono HB.out.size)
          clear hb hHeld
          go_wp2_with fail
          refine hK.out _ _ ⟨K1, K6⟩ (fun hHeld => ?_)
          clear hK K
          try simp only [Act.put, List.setIfInBounds_toArray, List.set_cons_zero, List.set_cons_succ]
          refine wpAnyH_take (i := 4) (oi := { dst := some 21, op := _, type := _, pos := _, after := _, guard := _ }) (v := .bool false) rfl (by kernel_rfl) (by kernel_rfl) (by kernel_rfl) (fun _ _ _ h => h) (Or.inl ⟨by rfl, by intro W hSw; clear hSw; have iE := HIE.out W; go_simp⟩) (by assumption) ?_
          try simp only [Act.put, List.setIfInBounds_toArray, List.set_cons_zero, List.set_cons_succ]
          refine wpAnyH_done (by kernel_rfl) ?_ _
          clear hHeld
          have ho0 : w5.ownsRow (w.heap.size + 1) 3 1 v (snG (ordF f) k).length ((snG (ordF f) k).map (Value.int .i64)) := ho
          clear ho
          have Y := Lib.hid (snG_no (Q := ordF f) (k := k) hq)
          go_wp2_with fail
          go_roundg g
          case rel => exact ⟨k + 1, _, by omega, by go_num, rfl, by rw [Y.out]; exact hv, by rw [Y.out]; exact ho0, K1, HB⟩
          case measure => omega
  · rw [snLR_no hV, vdO_no hV]
    have HV := Lib.hid (fun w => implBoard_no f w hV)
    clear hV
    go_enter Try.func12, Try.ntmps12
    go_wp2_with ((with_reducible show wpList _ _ _ (Oper.mk _ (Op.load 35 _) _ _ _ _ :: _) _ _); refine loadB (K1) rfl rfl rfl ?_)
    refine (HV.out _).mono ?_
    rintro e w1 ⟨rfl, hb⟩
    have hs1 := hb.size
    have HB := HB.out.trans (hb.mono HB.out.size)
    have HB1 : Hid (Below w.heap.size w (w1.alloc (.cells #[] 3))) := HB.alloc HB.size _
    have HO : OwnsInts (w1.alloc (.cells #[] 3)) w.heap.size (.slice (some ⟨w1.heap.size, 0, none⟩) 0 0) [] :=
      World.ownsRow_made (base := w.heap.size) (e := 3) (size := 1) w1 #[] 0 HB.size (by decide) rfl
    clear hb hs1
    go_wp2_with fail
    go_ret2
    exact ⟨_, _, rfl, HO, HB1.out⟩
end Go.Proofs.Ytmcmpedmgibmkab
