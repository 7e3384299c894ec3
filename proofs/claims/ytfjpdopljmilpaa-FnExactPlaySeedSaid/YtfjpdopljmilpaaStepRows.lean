/-
  Rows of steps: the contracts of the laws' helpers on them. No condition.
-/
import Derived.Test.YtfjpdopljmilpaaStepMem
import Derived.Test.YtfjpdopljmilpaaBaseA
namespace Go.Proofs.Ytfjpdopljmilpaa
open Go.RowKit Plain
attribute [local go_sem] Oper.semAt_some
set_option linter.unusedVariables false
set_option linter.unusedSimpArgs false

set_option maxHeartbeats 400000 in
theorem eqStep_same (s : Nat → Int) (w : World) :
    Calls Try.prog 241 #[.agg (mk 4 s), .agg (mk 4 s)] w fun e w' => e = .returned (.bool true) ∧ Below w.heap.size w w' := by
  have K1 := (Blk.new w 4 s 52).alloc (.cells (mk 4 s) 52)
  have K2 := Blk.new (w.alloc (.cells (mk 4 s) 52)) 4 s 52
  have HB := Lib.hid (((Below.refl w.heap.size w).alloc (Nat.le_refl _) (.cells (mk 4 s) 52)).alloc (by simp) (.cells (mk 4 s) 52))
  simp only [World.size_alloc] at K2
  have c0 := K1.cell (i := 0) (by omega)
  have d0 := K2.cell (i := 0) (by omega)
  go_enter Try.func241, Try.ntmps241
  go_wp2_with (first | ((with_reducible show wpList _ _ _ (Oper.mk _ (Op.load 37 _) _ _ _ _ :: _) _ _); refine loadPC (K1) (by omega) rfl rfl rfl ?_) | ((with_reducible show wpList _ _ _ (Oper.mk _ (Op.load 37 _) _ _ _ _ :: _) _ _); refine loadPC (K2) (by omega) rfl rfl rfl ?_))
  refine (eqIntA2_same _ _).mono ?_
  rintro e w1 ⟨rfl, hb⟩
  have K1 := K1.below hb K1.lt
  have K2 := K2.below hb K2.lt
  have HB : Hid (Below w.heap.size w w1) := HB.out.trans (hb.mono HB.out.size)
  clear hb c0 d0
  have c3 := K1.cell (i := 3) (by omega)
  have d3 := K2.cell (i := 3) (by omega)
  go_wp2_with fail
  go_ret
  exact ⟨rfl, HB.out⟩
set_option maxHeartbeats 2000000 in
set_option maxRecDepth 20000 in
theorem eqT_yes (v u : Value) (n : Nat) (h : Nat → Int) (w : World) (hv : KRow 4 w v n h) (hu : KRow 4 w u n h) (hn : n ≤ 1048576) :
    Calls Try.prog 153 #[v, u] w fun e w' => e = .returned (.bool true) ∧ Below w.heap.size w w' := by
  obtain ⟨b1, c1, rfl, hc1, k1⟩ := hv
  obtain ⟨b2, c2, rfl, hc2, k2⟩ := hu
  go_enter Try.func153, Try.ntmps153
  go_wp2
  go_loopw [5] (fun i wr => ∃ k : Nat, k ≤ n ∧ i = .int .i64 k ∧ CAt wr b1 (n * 4) h ∧ CAt wr b2 (n * 4) h ∧ Hid (Below w.heap.size w wr)) (fun i _ => n - (intOf i).toNat)
  case atStart => exact ⟨0, Nat.zero_le _, rfl, k1, k2, Lib.hid (Below.refl _ _)⟩
  case round =>
    obtain ⟨k, hk, rfl, k1, k2, hb⟩ := hrel
    by_cases hlt : k < n
    · have hk0 : (0 : Int) ≤ (k : Int) := by omega
      have hl : (k : Int) < (n : Int) := by omega
      have a0 := fun (W : World) (q : CAt W b1 (n * 4) h) => q.2 (k * 4) (by omega)
      have a1 := fun (W : World) (q : CAt W b1 (n * 4) h) => q.2 (k * 4 + 1) (by omega)
      have a2 := fun (W : World) (q : CAt W b1 (n * 4) h) => q.2 (k * 4 + 2) (by omega)
      have a3 := fun (W : World) (q : CAt W b1 (n * 4) h) => q.2 (k * 4 + 3) (by omega)
      have d0 := fun (W : World) (q : CAt W b2 (n * 4) h) => q.2 (k * 4) (by omega)
      have d1 := fun (W : World) (q : CAt W b2 (n * 4) h) => q.2 (k * 4 + 1) (by omega)
      have d2 := fun (W : World) (q : CAt W b2 (n * 4) h) => q.2 (k * 4 + 2) (by omega)
      have d3 := fun (W : World) (q : CAt W b2 (n * 4) h) => q.2 (k * 4 + 3) (by omega)
      have e2 : (#[.int .i64 (h (k * 4)), .int .i64 (h (k * 4 + 1)), .int .i64 (h (k * 4 + 2)), .int .i64 (h (k * 4 + 3))] : Array Value) = mk 4 (fun j => h (k * 4 + j)) := rfl
      go_wp2_with fail
      go_region_held3 (fun w' => CAt w' b1 (n * 4) h ∧ CAt w' b2 (n * 4) h ∧ Below w.heap.size w w') (first | exact ⟨k1, k2, hb.out.drew⟩ | assumption) (first | (go_at_call 241; refine (eqStep_same _ _).mono ?_; rintro e w6 ⟨rfl, hb6⟩; have J := heldC_step (by assumption) hb6; clear hb6) | fail)
      all_goals
        clear a0 a1 a2 a3 d0 d1 d2 d3 e2
        go_wp2_with fail
        go_roundw
        case rel => exact ⟨k + 1, by omega, by go_num, And.left (by assumption), And.left (And.right (by assumption)), And.right (And.right (by assumption))⟩
        case measure => simp [intOf]; omega
    · go_wp2
      go_ret
      exact ⟨rfl, hb.out⟩
set_option maxHeartbeats 1000000 in
theorem markT_row (g cap n base : Nat) (h : Nat → Int) (w : World) (ho : w.ownsRow base 52 4 (.slice (some ⟨g, 0, none⟩) n cap) n (mk (n * 4) h).toList) (hn : n ≤ 1048576) :
    Calls Try.prog 154 #[.slice (some ⟨g, 0, none⟩) n cap, .int .i64 1] w fun e w' => e = .returned (.int .i64 (1 + n * 4 : Nat)) ∧
      w'.ownsRow base 52 4 (.slice (some ⟨g, 0, none⟩) n cap) n (mk (n * 4) fun j => ((1 + j : Nat) : Int)).toList ∧ Below base w w' := by
  have hgb : base ≤ g := (ho.lt g rfl).1
  have HO : Hid (w.ownsRow base 52 4 (.slice (some ⟨g, 0, none⟩) n cap) n (mk (n * 4) (mixI h 0)).toList) := by
    show w.ownsRow _ _ _ _ _ _
    rw [mixI_zero]; exact ho
  clear ho
  go_enter Try.func154, Try.ntmps154
  go_wp2
  go_loopw [1, 5] (fun q i wr => ∃ k : Nat, k ≤ n ∧ i = .int .i64 k ∧ q = .int .i64 (1 + k * 4 : Nat) ∧ wr.ownsRow base 52 4 (.slice (some ⟨g, 0, none⟩) n cap) n (mk (n * 4) (mixI h (k * 4))).toList ∧ Below base w wr) (fun _ i _ => n - (intOf i).toNat)
  case atStart => exact ⟨0, Nat.zero_le _, rfl, rfl, HO.out, Below.refl _ _⟩
  case round =>
    obtain ⟨k, hk, rfl, rfl, hown, hbel⟩ := hrel
    have HB := Lib.hid hbel
    clear hbel
    by_cases hlt : k < n
    · have hk0 : (0 : Int) ≤ (k : Int) := by omega
      have hl : (k : Int) < (n : Int) := by omega
      have hd : wr.cell? ⟨g, k * 4, none⟩ = some (.int .i64 (mixI h (k * 4) (k * 4))) := by
        rw [hown.cellAt (k * 4) (by omega), Array.getElem?_toList]; exact mk_get _ (by omega)
      have hf := hown.frozenAt (k * 4)
      have hst := hown.stored (k * 4) (.int .i64 ((1 + (k * 4) : Nat) : Int))
      rw [← Array.toList_setIfInBounds, mk_set _ _ (by omega), mixI_step] at hst
      have HST := Lib.hid hst
      generalize mixI h (k * 4) (k * 4) = u0 at hd
      clear hst hown
      go_wp2
      clear hd hf
      have HO1 := Lib.hid HST.out.1
      have HB1 : Hid (Below base w (wr.setCell ⟨g, k * 4, none⟩ (.int .i64 ((1 + k * 4 : Nat) : Int)))) := HB.out.setCell (p := ⟨g, k * 4, none⟩) hgb _
      clear HST HB
      go_loopw [1, 6] (fun q i wx => ∃ j : Nat, j ≤ 2 ∧ i = .int .i64 j ∧ q = .int .i64 (1 + (k * 4 + 1 + j) : Nat) ∧ wx.ownsRow base 52 4 (.slice (some ⟨g, 0, none⟩) n cap) n (mk (n * 4) (mixI h (k * 4 + 1 + j))).toList ∧ Below base w wx) (fun _ i _ => 2 - (intOf i).toNat)
      case atStart => exact ⟨0, Nat.zero_le _, rfl, by go_num, HO1.out, HB1.out⟩
      case round =>
        obtain ⟨j, hj, rfl, rfl, hown, hbel⟩ := hrel
        have HB := Lib.hid hbel
        clear hbel
        by_cases hj2 : j < 2
        · have hj0 : (0 : Int) ≤ (j : Int) := by omega
          have hjl : (j : Int) < 2 := by omega
          have hd : wr.cell? ⟨g, k * 4 + 1 + j, none⟩ = some (.int .i64 (mixI h (k * 4 + 1 + j) (k * 4 + 1 + j))) := by
            rw [hown.cellAt (k * 4 + 1 + j) (by omega), Array.getElem?_toList]; exact mk_get _ (by omega)
          have hf := hown.frozenAt (k * 4 + 1 + j)
          have hst := hown.stored (k * 4 + 1 + j) (.int .i64 ((1 + (k * 4 + 1 + j) : Nat) : Int))
          rw [← Array.toList_setIfInBounds, mk_set _ _ (by omega), mixI_step] at hst
          have HST := Lib.hid hst
          generalize mixI h (k * 4 + 1 + j) (k * 4 + 1 + j) = u0 at hd
          clear hst hown
          go_wp2
          go_roundw
          case rel => exact ⟨j + 1, by omega, by go_num, by go_num, HST.out.1, HB.out.setCell (p := ⟨g, k * 4 + 1 + j, none⟩) hgb _⟩
          case measure => simp [intOf]; omega
        · obtain rfl : j = 2 := by omega
          have hown : wr.ownsRow base 52 4 (.slice (some ⟨g, 0, none⟩) n cap) n (mk (n * 4) (mixI h (k * 4 + 3))).toList := hown
          have hd : wr.cell? ⟨g, k * 4 + 3, none⟩ = some (.int .i64 (mixI h (k * 4 + 3) (k * 4 + 3))) := by
            rw [hown.cellAt (k * 4 + 3) (by omega), Array.getElem?_toList]; exact mk_get _ (by omega)
          have hf := hown.frozenAt (k * 4 + 3)
          have hst := hown.stored (k * 4 + 3) (.int .i64 ((1 + (k * 4 + 3) : Nat) : Int))
          rw [← Array.toList_setIfInBounds, mk_set _ _ (by omega), mixI_step] at hst
          have HST := Lib.hid hst
          generalize mixI h (k * 4 + 3) (k * 4 + 3) = u0 at hd
          clear hst hown
          have HE : Hid (k * 4 + 3 + 1 = (k + 1) * 4) := by show _ = _; omega
          go_wp2
          go_roundw
          case rel => exact ⟨k + 1, by omega, by go_num, by go_num, by rw [← HE.out]; exact HST.out.1, HB.out.setCell (p := ⟨g, k * 4 + 3, none⟩) hgb _⟩
          case measure => simp [intOf]; omega
    · obtain rfl : k = n := by omega
      have HW := Lib.hid hown
      clear hown
      go_wp2
      go_ret
      refine ⟨rfl, ?_, HB.out⟩
      have := HW.out
      rw [mixI_end] at this
      exact this

set_option maxHeartbeats 1000000 in
theorem heldT_row (v : Value) (n : Nat) (w : World) (hv : KRow 4 w v n fun j => ((1 + j : Nat) : Int)) (hn : n ≤ 1048576) :
    Calls Try.prog 155 #[v, .int .i64 1] w fun e w' => e = .returned (.int .i64 (1 + n * 4 : Nat)) ∧ w = w' := by
  obtain ⟨b, c, rfl, _, _, hc⟩ := hv
  have HC := Lib.hid hc
  clear hc
  go_enter Try.func155, Try.ntmps155
  go_wp2
  go_loop [1, 5] (fun q i => ∃ k : Nat, k ≤ n ∧ i = .int .i64 k ∧ q = .int .i64 (1 + k * 4 : Nat)) (fun _ i => n - (intOf i).toNat)
  case atStart => exact ⟨0, Nat.zero_le _, rfl, rfl⟩
  case round =>
    obtain ⟨k, hk, rfl, rfl⟩ := hrel
    by_cases hlt : k < n
    · have hk0 : (0 : Int) ≤ (k : Int) := by omega
      have hl : (k : Int) < (n : Int) := by omega
      have e0 := HC.out (k * 4) (by omega)
      go_wp2
      go_loop [1, 6] (fun q i => ∃ j : Nat, j ≤ 2 ∧ i = .int .i64 j ∧ q = .int .i64 (1 + (k * 4 + 1 + j) : Nat)) (fun _ i => 2 - (intOf i).toNat)
      case atStart => exact ⟨0, Nat.zero_le _, rfl, by go_num⟩
      case round =>
        obtain ⟨j, hj, rfl, rfl⟩ := hrel
        by_cases hj2 : j < 2
        · have hj0 : (0 : Int) ≤ (j : Int) := by omega
          have hjl : (j : Int) < 2 := by omega
          have e1 := HC.out (k * 4 + 1 + j) (by omega)
          go_wp2
          go_round
          case rel => exact ⟨j + 1, by omega, by go_num, by go_num⟩
          case measure => simp [intOf]; omega
        · obtain rfl : j = 2 := by omega
          have e3 := HC.out (k * 4 + 3) (by omega)
          go_wp2
          go_round
          case rel => exact ⟨k + 1, by omega, by go_num, by go_num⟩
          case measure => simp [intOf]; omega
    · obtain rfl : k = n := by omega
      go_wp2
      go_ret
      exact ⟨rfl, rfl⟩
namespace Plain
theorem stpR_le (f : Nat → Int) (d : Int) : (stpR f d).length ≤ 32 := by
  unfold stpR; split
  · exact step_le _ _
  · exact Nat.zero_le _
theorem stpR_all (f : Nat → Int) (d : Int) : AllL 4 (stpR f d) := fun l hl => by
  unfold stpR at hl
  split at hl
  · rename_i h; exact (step_fn (by have := h.2; omega) hl).1
  · cases hl
theorem btR_le (f g : Nat → Int) : (btR f g).length ≤ 128 := by
  have h1 := keep_le (btP f g) (allL f 4) (allL f 4).length
  have h2 := all_le f 4
  unfold btR btL; split
  · omega
  · exact Nat.zero_le _
theorem btR_all (f g : Nat → Int) : AllL 4 (btR f g) := fun l hl => by
  unfold btR at hl
  split at hl
  · exact (all_fn (Nat.le_refl 4) (keep_mem hl).1).1
  · cases hl
end Plain
end Go.Proofs.Ytfjpdopljmilpaa
