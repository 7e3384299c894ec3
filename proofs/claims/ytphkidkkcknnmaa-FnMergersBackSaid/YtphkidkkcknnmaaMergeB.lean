/-
  The contracts of what has merged in a row that slides: the reference's l6Merged, and the program's mergedPlaces, which is given the row and what it slides to.
-/
import Derived.Test.YtphkidkkcknnmaaSpecLists
import Derived.Test.YtphkidkkcknnmaaRowsB
namespace Go.Proofs.Ytphkidkkcknnmaa
open Go.RowKit Plain
attribute [local go_sem] store_new
set_option linter.unusedVariables false
set_option linter.unusedSimpArgs false

/-- Truth values, told by a function of their places. -/
def vb (b : Nat → Bool) : Nat → Value := fun j => .bool (b j)
theorem zeroT : (#[.bool false, .bool false, .bool false, .bool false] : Array Value) = vk 4 (vb fun _ => false) := rfl
theorem sizeT4 : (Try.prog.info? 112).map (·.size) = some 4 := by kernel_rfl
theorem sizeT1 : (Try.prog.info? 4).map (·.size) = some 1 := by kernel_rfl
theorem vbOne (b : Nat → Bool) : (vk 4 (vb b)).all (·.oneCell') = true := by simp [vk, vb, Value.oneCell']
theorem vb_upd (b : Nat → Bool) (i : Nat) (x : Bool) : updV (vb b) i (.bool x) = vb (updB b i x) := by
  funext j; unfold updV vb updB; split <;> rfl
theorem idxT (b : Nat → Bool) (k : Nat) (hk : k < 4) (w : World) : (Instr.index 112 (.agg (vk 4 (vb b))) (.int .i64 (k : Int))).run Try.prog w = .ok (.bool (b k)) w :=
  run_index_one Try.underlying112 Try.underlying4 rfl sizeT1 (vb b) hk w
/-- b below k, and false from there on. -/
def uptB (b : Nat → Bool) (k : Nat) : Nat → Bool := fun j => decide (j < k) && b j
theorem uptB_zero (b : Nat → Bool) : uptB b 0 = fun _ => false := by funext j; simp [uptB]
theorem uptB_no {b : Nat → Bool} {k : Nat} (h : b k = false) : uptB b (k + 1) = uptB b k := by
  funext j; unfold uptB
  by_cases e : j = k
  · subst e; simp [h]
  · congr 1; rw [Bool.eq_iff_iff, decide_eq_true_iff, decide_eq_true_iff]; omega
theorem uptB_yes {b : Nat → Bool} {k : Nat} (h : b k = true) : uptB b (k + 1) = updB (uptB b k) k true := by
  funext j; unfold uptB updB
  by_cases e : j = k
  · subst e; simp [h]
  · rw [if_neg e]; congr 1; rw [Bool.eq_iff_iff, decide_eq_true_iff, decide_eq_true_iff]; omega
theorem uptB_all {b : Nat → Bool} {k : Nat} (h : ∀ j, k ≤ j → b j = false) : uptB b k = b := by
  funext j; unfold uptB
  by_cases e : j < k
  · simp [e]
  · rw [h j (by omega)]; simp

set_option maxHeartbeats 2000000 in
set_option maxRecDepth 20000 in
theorem l6Merged_any (f : Nat → Int) (w : World) :
    Calls Try.prog 94 #[.agg (mk 4 f)] w fun e w' => e = .returned (.agg (vk 4 (vb (mgB f)))) ∧ Below w.heap.size w w' := by
  have zt := zeroT
  have K1 := ((Blk.new w 4 f 22).alloc (.cells (vk 4 (vb fun _ => false)) 112)).alloc (.cells (vk 4 (vb fun _ => false)) 112)
  have K2 := (Oth.new (w.alloc (.cells (mk 4 f) 22)) (vk 4 (vb fun _ => false)) 112).alloc (.cells (vk 4 (vb fun _ => false)) 112)
  have K3 := Oth.new ((w.alloc (.cells (mk 4 f) 22)).alloc (.cells (vk 4 (vb fun _ => false)) 112)) (vk 4 (vb fun _ => false)) 112
  have HB := Lib.hid ((((Below.refl w.heap.size w).alloc (Nat.le_refl _) (.cells (mk 4 f) 22)).alloc (by simp) (.cells (vk 4 (vb fun _ => false)) 112)).alloc (by simp; omega) (.cells (vk 4 (vb fun _ => false)) 112))
  simp only [World.size_alloc] at K2 K3
  go_enter Try.func94, Try.ntmps94
  go_wp2_with ((with_reducible show wpList _ _ _ (Oper.mk _ (Op.store 112 _ _) _ _ _ _ :: _) _ _); refine wpl_store_vk rfl _ _ _ rfl rfl rfl K3 sizeT4 (vbOne _) ?_)
  have K1 := K1.rowOther (w.heap.size + 1 + 1) (vk 4 (vb fun _ => false)) (by omega)
  have K2 := K2.rowOther (w.heap.size + 1 + 1) (vk 4 (vb fun _ => false)) (by omega)
  have K3 := K3.row (vk 4 (vb fun _ => false))
  have HB := Lib.hid (below_setRow HB.out (show w.heap.size ≤ w.heap.size + 1 + 1 by omega) (vk 4 (vb fun _ => false)))
  generalize World.setRow _ (w.heap.size + 1 + 1) (vk 4 (vb fun _ => false)) = w1 at *
  go_loopg [4, 5, 6] 4 (fun gk s4 s5 s6 wr => ∃ k : Nat, k + gk = 4 ∧ s6 = .int .i64 k ∧ s4 = .int .i64 ((mrS f k).n : Nat) ∧ s5 = .int .i64 (mrS f k).la ∧ Blk wr w.heap.size 4 f 22 ∧ Oth wr (w.heap.size + 1) (vk 4 (vb fun _ => false)) 112 ∧ Oth wr (w.heap.size + 1 + 1) (vk 4 (vb (mrS f k).b)) 112 ∧ Hid (Below w.heap.size w wr))
  case atStart => exact ⟨0, by omega, rfl, rfl, rfl, K1, K2, K3, HB⟩
  case round =>
    clear K1 K2 K3 HB
    obtain ⟨k, hkg, rfl, rfl, rfl, K1, K2, K3, HB⟩ := hrel
    cases gk with
    | zero =>
      have hk : ¬ ((k : Int) < 4) := by omega
      obtain rfl : k = 4 := by omega
      go_wp2_with (first | ((with_reducible show wpList _ _ _ (Oper.mk _ (Op.load 112 _) _ _ _ _ :: _) _ _); refine wpl_load_vk rfl _ _ rfl rfl K3 Try.underlying112 rfl sizeT4 ?_) | ((with_reducible show wpList _ _ _ (Oper.mk _ (Op.store 112 _ _) _ _ _ _ :: _) _ _); refine wpl_store_vk rfl _ _ _ rfl rfl rfl K2 sizeT4 (vbOne _) ?_))
      try simp only [Exit.inBlock, Exit.then]
      exact ret_vk Try.underlying112 rfl sizeT4 rfl rfl rfl (K2.row (vk 4 (vb (mrS f 4).b))) ⟨rfl, below_setRow HB.out (by omega) _⟩
    | succ q9 =>
      have hk : (k : Int) < 4 := by omega
      have hk0 : (0 : Int) ≤ (k : Int) := by omega
      have c1 := K1.cell (i := k) (by omega)
      have hnk := mr_le f k
      by_cases h0 : f k = 0
      · have HS : Hid (mrS f (k + 1) = mrS f k) := mr_zero h0
        rw [h0] at c1
        clear h0
        go_wp2_with fail
        go_roundg q9
        case rel => exact ⟨k + 1, by omega, by go_num, by (first | (rw [HS.out]; done) | (rw [HS.out]; (try simp only []); go_num)), by rw [HS.out], K1, K2, by rw [HS.out]; exact K3, HB⟩
        case measure => omega
      · have q0 : (f k == 0) = false := by simpa using h0
        by_cases hn : 0 < (mrS f k).n
        · obtain ⟨m, hm⟩ : ∃ m, (mrS f k).n = m + 1 := ⟨(mrS f k).n - 1, by omega⟩
          have c3 := K3.get (i := m) (by omega)
          have f3 := K3.free m
          have hw : IntKind.i64.wrap (((m + 1 : Nat) : Int) - 1) = (m : Int) := by rw [IntWalk.i64_in _ (by omega)]; omega
          have hm0 : (0 : Int) ≤ (m : Int) := by omega
          have hm4 : (m : Int) < 4 := by omega
          have hmp : (0 : Int) < ((m + 1 : Nat) : Int) := by omega
          by_cases hl : (mrS f k).la = f k
          · by_cases h17 : f k < 17
            · cases hb : (mrS f k).b m with
              | false =>
                have e := mr_two h0 ⟨hn, hl, h17, by rw [hm, Nat.add_sub_cancel]; exact hb⟩
                rw [hm, Nat.add_sub_cancel] at e
                have HS : Hid (mrS f (k + 1) = ⟨updB (mrS f k).b m true, m + 1, 0⟩) := e
                rw [show vb (mrS f k).b m = .bool false by rw [vb, hb]] at c3
                rw [hm, hl]
                generalize f k = x at *
                clear e h0 hn hl hb hm
                go_wp2_with fail
                have K3 := K3.set (i := m) (by omega) (.bool true)
                rw [vb_upd] at K3
                have K1 := K1.setOther ⟨w.heap.size + 1 + 1, m, none⟩ (.bool true) (by dsimp only; omega)
                have K2 := K2.setOther ⟨w.heap.size + 1 + 1, m, none⟩ (.bool true) (by dsimp only; omega)
                have HB := Lib.hid (HB.out.setCell (p := ⟨w.heap.size + 1 + 1, m, none⟩) (by dsimp only; omega) (.bool true))
                go_roundg q9
                case rel => exact ⟨k + 1, by omega, by go_num, by (first | (rw [HS.out]; done) | (rw [HS.out]; (try simp only []); go_num)), by rw [HS.out], K1, K2, by rw [HS.out]; exact K3, HB⟩
                case measure => omega
              | true =>
                have HS : Hid (mrS f (k + 1) = ⟨(mrS f k).b, (mrS f k).n + 1, f k⟩) := mr_one h0 (fun q => by have := q.2.2.2; rw [hm, Nat.add_sub_cancel, hb] at this; cases this)
                rw [show vb (mrS f k).b m = .bool true by rw [vb, hb]] at c3
                rw [hm, hl]
                rw [hm] at HS
                generalize f k = x at *
                clear h0 hn hl hb hm
                go_wp2_with fail
                go_roundg q9
                case rel => exact ⟨k + 1, by omega, by go_num, by (first | (rw [HS.out]; done) | (rw [HS.out]; (try simp only []); go_num)), by rw [HS.out], K1, K2, by rw [HS.out]; exact K3, HB⟩
                case measure => omega
            · have HS : Hid (mrS f (k + 1) = ⟨(mrS f k).b, (mrS f k).n + 1, f k⟩) := mr_one h0 (fun q => h17 q.2.2.1)
              rw [hm, hl]
              rw [hm] at HS
              generalize f k = x at *
              clear h0 hn hl hm
              go_wp2_with fail
              go_roundg q9
              case rel => exact ⟨k + 1, by omega, by go_num, by (first | (rw [HS.out]; done) | (rw [HS.out]; (try simp only []); go_num)), by rw [HS.out], K1, K2, by rw [HS.out]; exact K3, HB⟩
              case measure => omega
          · have HS : Hid (mrS f (k + 1) = ⟨(mrS f k).b, (mrS f k).n + 1, f k⟩) := mr_one h0 (fun q => hl q.2.1)
            have q1 : ((mrS f k).la == f k) = false := by simpa using hl
            rw [hm]
            rw [hm] at HS
            generalize f k = x at *
            clear h0 hn hl hm
            go_wp2_with fail
            go_roundg q9
            case rel => exact ⟨k + 1, by omega, by go_num, by (first | (rw [HS.out]; done) | (rw [HS.out]; (try simp only []); go_num)), by rw [HS.out], K1, K2, by rw [HS.out]; exact K3, HB⟩
            case measure => omega
        · have HS : Hid (mrS f (k + 1) = ⟨(mrS f k).b, (mrS f k).n + 1, f k⟩) := mr_one h0 (fun q => hn q.1)
          have hm : (mrS f k).n = 0 := by omega
          rw [hm]
          rw [hm] at HS
          generalize f k = x at *
          clear h0 hn hm
          go_wp2_with fail
          go_roundg q9
          case rel => exact ⟨k + 1, by omega, by go_num, by (first | (rw [HS.out]; done) | (rw [HS.out]; (try simp only []); go_num)), by rw [HS.out], K1, K2, by rw [HS.out]; exact K3, HB⟩
          case measure => omega

set_option maxHeartbeats 2000000 in
set_option maxRecDepth 20000 in
theorem mergedPlaces_any (x r : Nat → Int) (w : World) (hx : VdRow x) (hr : ∀ i, i < 4 → (slid x 4).row i = r i) :
    Calls Try.prog 95 #[.agg (mk 4 x), .agg (mk 4 r)] w fun e w' => e = .returned (.agg (vk 4 (vb (mgB x)))) ∧ Below w.heap.size w w' := by
  have zt := zeroT
  have z4 := zero4
  have HAT := Lib.hid (fun p (hp : p < 4) (h0 : r p ≠ 0) => mg_at hx hr hp h0)
  have HRS := Lib.hid (fun p (hp : p < 4) (h0 : r p = 0) => mg_rest hx hr hp h0)
  clear hx hr
  have K0 := (((Blk.new w 4 x 22).alloc (.cells (mk 4 r) 22)).alloc (.cells (vk 4 (vb fun _ => false)) 112)).alloc (.cells (vk 4 (vb fun _ => false)) 112)
  have K1 := ((Blk.new (w.alloc (.cells (mk 4 x) 22)) 4 r 22).alloc (.cells (vk 4 (vb fun _ => false)) 112)).alloc (.cells (vk 4 (vb fun _ => false)) 112)
  have K2 := (Oth.new ((w.alloc (.cells (mk 4 x) 22)).alloc (.cells (mk 4 r) 22)) (vk 4 (vb fun _ => false)) 112).alloc (.cells (vk 4 (vb fun _ => false)) 112)
  have K3 := Oth.new (((w.alloc (.cells (mk 4 x) 22)).alloc (.cells (mk 4 r) 22)).alloc (.cells (vk 4 (vb fun _ => false)) 112)) (vk 4 (vb fun _ => false)) 112
  have HB := Lib.hid (((((Below.refl w.heap.size w).alloc (Nat.le_refl _) (.cells (mk 4 x) 22)).alloc (by simp) (.cells (mk 4 r) 22)).alloc (by simp; omega) (.cells (vk 4 (vb fun _ => false)) 112)).alloc (by simp; omega) (.cells (vk 4 (vb fun _ => false)) 112))
  simp only [World.size_alloc] at K1 K2 K3
  go_enter Try.func95, Try.ntmps95
  have K0s := K0.rowOther (w.heap.size + 1 + 1 + 1) (vk 4 (vb fun _ => false)) (by omega)
  have K1 := K1.rowOther (w.heap.size + 1 + 1 + 1) (vk 4 (vb fun _ => false)) (by omega)
  have K2 := K2.rowOther (w.heap.size + 1 + 1 + 1) (vk 4 (vb fun _ => false)) (by omega)
  have K3s := K3.row (vk 4 (vb fun _ => false))
  have HB := Lib.hid (below_setRow HB.out (show w.heap.size ≤ w.heap.size + 1 + 1 + 1 by omega) (vk 4 (vb fun _ => false)))
  go_wp2_with (first | ((with_reducible show wpList _ _ _ (Oper.mk _ (Op.store 112 _ _) _ _ _ _ :: _) _ _); refine wpl_store_vk rfl _ _ _ rfl rfl rfl K3 sizeT4 (vbOne _) ?_) | ((with_reducible show wpList _ _ _ (Oper.mk _ (Op.load 22 _) _ _ _ _ :: _) _ _); refine loadR (K0s) rfl rfl rfl ?_))
  generalize World.setRow _ (w.heap.size + 1 + 1 + 1) (vk 4 (vb fun _ => false)) = w1 at *
  refine (flushed_any x _).mono ?_
  rintro e w2 ⟨rfl, hb⟩
  have hz2 : w.heap.size + 1 + 1 + 1 < w2.heap.size := Nat.lt_of_lt_of_le K3s.lt hb.size
  have K1 := (K1.below hb K1.lt).alloc (.cells (mk 4 (fl x 4).1) 22)
  have K2 := (K2.below hb K2.lt).alloc (.cells (mk 4 (fl x 4).1) 22)
  have K3 := (K3s.below hb K3s.lt).alloc (.cells (mk 4 (fl x 4).1) 22)
  have K6 := Blk.new w2 4 (fl x 4).1 22
  have HB : Hid (Below w.heap.size w w2) := HB.out.trans (hb.mono HB.out.size)
  have HB : Hid (Below w.heap.size w (w2.alloc (.cells (mk 4 (fl x 4).1) 22))) := HB.out.alloc HB.out.size _
  clear hb K0s K0
  generalize (fl x 4).1 = T at *
  generalize hB : mgB x = B at *
  go_wp2_with ((with_reducible show wpList _ _ _ (Oper.mk _ (Op.load 22 _) _ _ _ _ :: _) _ _); refine loadR (K1) rfl rfl rfl ?_)
  generalize w2.alloc (.cells (mk 4 T) 22) = w3 at *
  generalize w2.heap.size = b6 at *
  clear K1
  go_loopg [7, 14] 4 (fun gk s7 s14 wr => ∃ p : Nat, p + gk = 4 ∧ s14 = .int .i64 p ∧ s7 = .int .i64 (stN B p : Nat) ∧ Oth wr (w.heap.size + 1 + 1) (vk 4 (vb fun _ => false)) 112 ∧ Oth wr (w.heap.size + 1 + 1 + 1) (vk 4 (vb (uptB B p))) 112 ∧ Blk wr b6 4 T 22 ∧ Hid (Below w.heap.size w wr))
  case atStart => exact ⟨0, by omega, rfl, rfl, K2, by rw [uptB_zero]; exact K3, K6, HB⟩
  case round =>
    clear K2 K3 K6 HB
    obtain ⟨p, hpg, rfl, rfl, K2, K3, K6, HB⟩ := hrel
    cases gk with
    | zero =>
      have hp : ¬ ((p : Int) < 4) := by omega
      obtain rfl : p = 4 := by omega
      have K3 : Oth wr (w.heap.size + 1 + 1 + 1) (vk 4 (vb B)) 112 := by
        rw [show vk 4 (vb B) = vk 4 (vb (uptB B 4)) from vk_congr fun i hi => by unfold vb uptB; simp [hi]]
        exact K3
      go_wp2_with (first | ((with_reducible show wpList _ _ _ (Oper.mk _ (Op.load 112 _) _ _ _ _ :: _) _ _); refine wpl_load_vk rfl _ _ rfl rfl K3 Try.underlying112 rfl sizeT4 ?_) | ((with_reducible show wpList _ _ _ (Oper.mk _ (Op.store 112 _ _) _ _ _ _ :: _) _ _); refine wpl_store_vk rfl _ _ _ rfl rfl rfl K2 sizeT4 (vbOne _) ?_))
      try simp only [Exit.inBlock, Exit.then]
      exact ret_vk Try.underlying112 rfl sizeT4 rfl rfl rfl (K2.row (vk 4 (vb B))) ⟨rfl, below_setRow HB.out (by omega) _⟩
    | succ q9 =>
      have hp : (p : Int) < 4 := by omega
      have hp0 : (0 : Int) ≤ (p : Int) := by omega
      have hp9 : p < 4 := by omega
      have iR := fun W => idxR r p hp9 W
      by_cases h0 : r p = 0
      · have K3 : Oth wr (w.heap.size + 1 + 1 + 1) (vk 4 (vb B)) 112 := by
          rw [uptB_all (HRS.out p hp9 h0)] at K3; exact K3
        rw [h0] at iR
        clear h0
        go_wp2_with (first | ((with_reducible show wpList _ _ _ (Oper.mk _ (Op.load 112 _) _ _ _ _ :: _) _ _); refine wpl_load_vk rfl _ _ rfl rfl K3 Try.underlying112 rfl sizeT4 ?_) | ((with_reducible show wpList _ _ _ (Oper.mk _ (Op.store 112 _ _) _ _ _ _ :: _) _ _); refine wpl_store_vk rfl _ _ _ rfl rfl rfl K2 sizeT4 (vbOne _) ?_))
        try simp only [Exit.inBlock, Exit.then]
        exact ret_vk Try.underlying112 rfl sizeT4 rfl rfl rfl (K2.row (vk 4 (vb B))) ⟨rfl, below_setRow HB.out (by omega) _⟩
      · obtain ⟨hst, hno, hyes⟩ := HAT.out p hp9 h0
        have q0 : (r p == 0) = false := by simpa using h0
        have c6 := K6.cell (i := stN B p) hst
        have hst4 : ((stN B p : Nat) : Int) < 4 := by omega
        have hst0 : (0 : Int) ≤ ((stN B p : Nat) : Int) := by omega
        cases hb : B p with
        | false =>
          rw [hno hb] at c6
          have HS : Hid (stN B (p + 1) = stN B p + 1) := by show _ = _; rw [stN, hb]; rfl
          have HU : Hid (uptB B (p + 1) = uptB B p) := uptB_no hb
          generalize r p = t at *
          generalize stN B p = s at *
          clear h0 hno hyes hb
          go_wp2_with fail
          go_roundg q9
          case rel => exact ⟨p + 1, by omega, by go_num, by rw [HS.out]; go_num, K2, by rw [HU.out]; exact K3, K6, HB⟩
          case measure => omega
        | true =>
          rw [hyes hb] at c6
          have q1 : (r p - 1 == r p) = false := by have : r p - 1 ≠ r p := by omega
                                                   simpa using this
          have HS : Hid (stN B (p + 1) = stN B p + 2) := by show _ = _; rw [stN, hb]; rfl
          have HU : Hid (uptB B (p + 1) = updB (uptB B p) p true) := uptB_yes hb
          have c3 := K3.get (i := p) hp9
          have f3 := K3.free p
          generalize r p = t at *
          generalize stN B p = s at *
          clear h0 hno hyes hb
          generalize t - 1 = u at *
          go_wp2_with fail
          have K3 := K3.set (i := p) hp9 (.bool true)
          rw [vb_upd] at K3
          go_roundg q9
          case rel => exact ⟨p + 1, by omega, by go_num, by rw [HS.out]; go_num, K2.setOther _ _ (by dsimp only; omega), by rw [HU.out]; exact K3, K6.setOther _ _ (by dsimp only; omega), HB.out.setCell (by dsimp only; omega) _⟩
          case measure => omega
end Go.Proofs.Ytphkidkkcknnmaa
