/-
  Rows of cells that are read, and the contracts of the laws' helpers on them: eqIntA2S, markIntA2S, heldIntA2S.
-/
import Derived.Test.YtffonncbmddjgaaIntRows
import Derived.Test.YtffonncbmddjgaaEmpty
import Derived.Test.YtffonncbmddjgaaConv
import Derived.Deep.RegionHeld3
namespace Go.Proofs.Ytffonncbmddjgaa
open Go.RowKit Plain

attribute [local go_sem] Oper.semAt_some

/-- n integers lie in a block from its begin on. -/
def CAt (w : World) (g n : Nat) (h : Nat → Int) : Prop := g < w.heap.size ∧ ∀ j, j < n → w.cell? ⟨g, j, none⟩ = some (.int .i64 (h j))
theorem CAt.below {w w' : World} {g n : Nat} {h : Nat → Int} (r : CAt w g n h) (hb : Below w.heap.size w w') : CAt w' g n h :=
  ⟨Nat.lt_of_lt_of_le r.1 hb.size, fun j hj => (hb.cell (p := ⟨g, j, none⟩) r.1).trans (r.2 j hj)⟩
/-- The value v is a slice of n cells, told by a function of their numbers' places. -/
def CRow (w : World) (v : Value) (n : Nat) (h : Nat → Int) : Prop := ∃ g cap, v = .slice (some ⟨g, 0, none⟩) n cap ∧ n ≤ cap ∧ CAt w g (n * 2) h
theorem CRow.below {w w' : World} {v : Value} {n : Nat} {h : Nat → Int} (r : CRow w v n h) (hb : Below w.heap.size w w') : CRow w' v n h := by
  obtain ⟨g, cap, rfl, h0, h1⟩ := r
  exact ⟨g, cap, rfl, h0, h1.below hb⟩
theorem CRow.of_own {w : World} {base g cap n : Nat} {h : Nat → Int} {t : TypeId} (o : w.ownsRow base t 2 (.slice (some ⟨g, 0, none⟩) n cap) n (mk (n * 2) h).toList) : CRow w (.slice (some ⟨g, 0, none⟩) n cap) n h := by
  have hlt := (o.lt g rfl).2
  have hcap : n ≤ cap := by
    rcases o.2 with ⟨h2, _⟩ | ⟨g', cap', cur, h2, _, _, h3, _⟩
    · cases h2
    · cases h2; exact h3
  refine ⟨g, cap, rfl, hcap, hlt, fun j hj => ?_⟩
  rw [o.cellAt j hj, Array.getElem?_toList]
  exact mk_get h hj
theorem heldC_step {w W w6 : World} {b c n : Nat} {f : Nat → Int} (h : CAt W b n f ∧ CAt W c n f ∧ Below w.heap.size w W) (hb : Below W.heap.size W w6) : CAt w6 b n f ∧ CAt w6 c n f ∧ Below w.heap.size w w6 :=
  ⟨h.1.below hb, h.2.1.below hb, h.2.2.trans (hb.mono h.2.2.size)⟩

set_option maxHeartbeats 1000000 in
set_option maxRecDepth 20000 in
theorem eqC_yes (v u : Value) (n : Nat) (h : Nat → Int) (w : World) (hv : CRow w v n h) (hu : CRow w u n h) (hn : n ≤ 1048576) :
    Calls Try.prog 107 #[v, u] w fun e w' => e = .returned (.bool true) ∧ Below w.heap.size w w' := by
  obtain ⟨b1, c1, rfl, hc1, k1⟩ := hv
  obtain ⟨b2, c2, rfl, hc2, k2⟩ := hu
  go_enter Try.func107, Try.ntmps107
  go_wp2
  go_loopw [5] (fun i wr => ∃ k : Nat, k ≤ n ∧ i = .int .i64 k ∧ CAt wr b1 (n * 2) h ∧ CAt wr b2 (n * 2) h ∧ Hid (Below w.heap.size w wr)) (fun i _ => n - (intOf i).toNat)
  case atStart => exact ⟨0, Nat.zero_le _, rfl, k1, k2, Lib.hid (Below.refl _ _)⟩
  case round =>
    obtain ⟨k, hk, rfl, k1, k2, hb⟩ := hrel
    by_cases hlt : k < n
    · have hk0 : (0 : Int) ≤ (k : Int) := by omega
      have hl : (k : Int) < (n : Int) := by omega
      have a0 := fun (W : World) (q : CAt W b1 (n * 2) h) => q.2 (k * 2) (by omega)
      have a1 := fun (W : World) (q : CAt W b1 (n * 2) h) => q.2 (k * 2 + 1) (by omega)
      have d0 := fun (W : World) (q : CAt W b2 (n * 2) h) => q.2 (k * 2) (by omega)
      have d1 := fun (W : World) (q : CAt W b2 (n * 2) h) => q.2 (k * 2 + 1) (by omega)
      have e2 : (#[.int .i64 (h (k * 2)), .int .i64 (h (k * 2 + 1))] : Array Value) = mk 2 (fun j => h (k * 2 + j)) := rfl
      go_wp2_with fail
      go_region_held3 (fun w' => CAt w' b1 (n * 2) h ∧ CAt w' b2 (n * 2) h ∧ Below w.heap.size w w') (first | exact ⟨k1, k2, hb.out.drew⟩ | assumption) (first | (go_at_call 169; refine (eqIntA2_same _ _).mono ?_; rintro e w6 ⟨rfl, hb6⟩; have J := heldC_step (by assumption) hb6; clear hb6) | fail)
      all_goals
        clear a0 a1 d0 d1 e2
        go_wp2_with fail
        go_roundw
        case rel => exact ⟨k + 1, by omega, by go_num, And.left (by assumption), And.left (And.right (by assumption)), And.right (And.right (by assumption))⟩
        case measure => simp [intOf]; omega
    · go_wp2
      go_ret
      exact ⟨rfl, hb.out⟩

set_option maxHeartbeats 1000000 in
theorem markC_row (g cap n base : Nat) (h : Nat → Int) (w : World) (ho : w.ownsRow base 62 2 (.slice (some ⟨g, 0, none⟩) n cap) n (mk (n * 2) h).toList) (hn : n ≤ 1048576) :
    Calls Try.prog 108 #[.slice (some ⟨g, 0, none⟩) n cap, .int .i64 1] w fun e w' => e = .returned (.int .i64 (1 + n * 2 : Nat)) ∧
      w'.ownsRow base 62 2 (.slice (some ⟨g, 0, none⟩) n cap) n (mk (n * 2) fun j => ((1 + j : Nat) : Int)).toList ∧ Below base w w' := by
  have hgb : base ≤ g := (ho.lt g rfl).1
  have HO : Hid (w.ownsRow base 62 2 (.slice (some ⟨g, 0, none⟩) n cap) n (mk (n * 2) (mixI h 0)).toList) := by
    show w.ownsRow _ _ _ _ _ _
    rw [mixI_zero]; exact ho
  clear ho
  go_enter Try.func108, Try.ntmps108
  go_wp2
  go_loopw [1, 5] (fun q i wr => ∃ k : Nat, k ≤ n ∧ i = .int .i64 k ∧ q = .int .i64 (1 + k * 2 : Nat) ∧ wr.ownsRow base 62 2 (.slice (some ⟨g, 0, none⟩) n cap) n (mk (n * 2) (mixI h (k * 2))).toList ∧ Below base w wr) (fun _ i _ => n - (intOf i).toNat)
  case atStart => exact ⟨0, Nat.zero_le _, rfl, rfl, HO.out, Below.refl _ _⟩
  case round =>
    obtain ⟨k, hk, rfl, rfl, hown, hbel⟩ := hrel
    have HB := Lib.hid hbel
    have HW := Lib.hid hown
    clear hbel hown
    by_cases hlt : k < n
    · have hk0 : (0 : Int) ≤ (k : Int) := by omega
      have hl : (k : Int) < (n : Int) := by omega
      go_wp2_with fail
      go_loopw [1, 6] (fun q i wx => ∃ j : Nat, j ≤ 2 ∧ i = .int .i64 j ∧ q = .int .i64 (1 + (k * 2 + j) : Nat) ∧ wx.ownsRow base 62 2 (.slice (some ⟨g, 0, none⟩) n cap) n (mk (n * 2) (mixI h (k * 2 + j))).toList ∧ Below base w wx) (fun _ i _ => 2 - (intOf i).toNat)
      case atStart => exact ⟨0, Nat.zero_le _, rfl, rfl, HW.out, HB.out⟩
      case round =>
        obtain ⟨j, hj, rfl, rfl, hown, hbel⟩ := hrel
        have HB := Lib.hid hbel
        clear hbel
        by_cases hj2 : j < 2
        · have hj0 : (0 : Int) ≤ (j : Int) := by omega
          have hjl : (j : Int) < 2 := by omega
          have hd : wr.cell? ⟨g, k * 2 + j, none⟩ = some (.int .i64 (mixI h (k * 2 + j) (k * 2 + j))) := by
            rw [hown.cellAt (k * 2 + j) (by omega), Array.getElem?_toList]; exact mk_get _ (by omega)
          have hf := hown.frozenAt (k * 2 + j)
          have hst := hown.stored (k * 2 + j) (.int .i64 ((1 + (k * 2 + j) : Nat) : Int))
          rw [← Array.toList_setIfInBounds, mk_set _ _ (by omega), mixI_step] at hst
          have HST := Lib.hid hst
          generalize mixI h (k * 2 + j) (k * 2 + j) = u0 at hd
          clear hst hown
          go_wp2
          go_roundw
          case rel => exact ⟨j + 1, by omega, by go_num, by go_num, HST.out.1, HB.out.setCell (p := ⟨g, k * 2 + j, none⟩) hgb _⟩
          case measure => simp [intOf]; omega
        · obtain rfl : j = 2 := by omega
          have HW := Lib.hid hown
          clear hown
          have HE : Hid (k * 2 + 2 = (k + 1) * 2) := by show _ = _; omega
          go_wp2
          go_roundw
          case rel => exact ⟨k + 1, by omega, by go_num, by go_num, by rw [← HE.out]; exact HW.out, HB.out⟩
          case measure => simp [intOf]; omega
    · obtain rfl : k = n := by omega
      go_wp2
      go_ret
      refine ⟨rfl, ?_, HB.out⟩
      have := HW.out
      rw [mixI_end] at this
      exact this

set_option maxHeartbeats 1000000 in
theorem heldC_row (v : Value) (n : Nat) (w : World) (hv : CRow w v n fun j => ((1 + j : Nat) : Int)) (hn : n ≤ 1048576) :
    Calls Try.prog 109 #[v, .int .i64 1] w fun e w' => e = .returned (.int .i64 (1 + n * 2 : Nat)) ∧ w = w' := by
  obtain ⟨b, c, rfl, _, _, hc⟩ := hv
  have HC := Lib.hid hc
  clear hc
  go_enter Try.func109, Try.ntmps109
  go_wp2
  go_loop [1, 5] (fun q i => ∃ k : Nat, k ≤ n ∧ i = .int .i64 k ∧ q = .int .i64 (1 + k * 2 : Nat)) (fun _ i => n - (intOf i).toNat)
  case atStart => exact ⟨0, Nat.zero_le _, rfl, rfl⟩
  case round =>
    obtain ⟨k, hk, rfl, rfl⟩ := hrel
    by_cases hlt : k < n
    · have hk0 : (0 : Int) ≤ (k : Int) := by omega
      have hl : (k : Int) < (n : Int) := by omega
      go_wp2
      go_loop [1, 6] (fun q i => ∃ j : Nat, j ≤ 2 ∧ i = .int .i64 j ∧ q = .int .i64 (1 + (k * 2 + j) : Nat)) (fun _ i => 2 - (intOf i).toNat)
      case atStart => exact ⟨0, Nat.zero_le _, rfl, rfl⟩
      case round =>
        obtain ⟨j, hj, rfl, rfl⟩ := hrel
        by_cases hj2 : j < 2
        · have hj0 : (0 : Int) ≤ (j : Int) := by omega
          have hjl : (j : Int) < 2 := by omega
          have e1 := HC.out (k * 2 + j) (by omega)
          go_wp2
          go_round
          case rel => exact ⟨j + 1, by omega, by go_num, by go_num⟩
          case measure => simp [intOf]; omega
        · obtain rfl : j = 2 := by omega
          go_wp2
          go_round
          case rel => exact ⟨k + 1, by omega, by go_num, by go_num⟩
          case measure => simp [intOf]; omega
    · obtain rfl : k = n := by omega
      go_wp2
      go_ret
      exact ⟨rfl, rfl⟩
end Go.Proofs.Ytffonncbmddjgaa
