/-
  The contracts of Lasts and LastsHow, in the reference and in the program, for every board and number.
-/
import Derived.Test.YtlboglcpbbnbcabLastA
import Derived.Test.YtlboglcpbbnbcabSpecLast
namespace Go.Proofs.Ytlboglcpbbnbcab
open Go.RowKit Plain
attribute [local go_sem] store_new
set_option linter.unusedVariables false
set_option linter.unusedSimpArgs false
theorem Via.under {K : Nat} {w A B : World} (hb : Below w.heap.size w A) (h : Via K A B) (hK : w.heap.size ≤ K) : Below w.heap.size w B :=
  hb.grown h.1 hb.size (fun j e => by cases e; exact hK)
theorem cst_le {n : Nat} (h : n ≤ 3) : cst n ≤ 16513 := by
  rcases (by omega : n = 0 ∨ n = 1 ∨ n = 2 ∨ n = 3) with rfl | rfl | rfl | rfl <;> decide
theorem hw_stop {f : Nat → Int} {k : Nat} (h1 : hwF f k = k) (h2 : lastF (k + 1) f = false) : ∀ i, hwF f (k + i) = k
  | 0 => h1
  | i + 1 => by
    have ih := hw_stop h1 h2 i
    show hwF f (k + i + 1) = k
    unfold hwF
    rw [if_neg]
    · exact ih
    · rintro ⟨q1, q2⟩
      have : i = 0 := by omega
      subst this
      rw [Nat.add_zero, h2] at q2
      cases q2
theorem hw_go {f : Nat → Int} {k : Nat} (h1 : hwF f k = k) (h2 : lastF (k + 1) f = true) : hwF f (k + 1) = k + 1 := by
  show (if hwF f k = k ∧ lastF (k + 1) f = true then k + 1 else hwF f k) = k + 1
  rw [if_pos ⟨h1, h2⟩]
set_option maxHeartbeats 1000000 in
theorem specLasts_any (f : Nat → Int) (n : Int) (w : World) :
    Calls Try.prog 49 #[.agg (mk 16 f), .int .i64 n] w fun e w' => e = .returned (.tuple #[.bool (ltR f n), .bool (ltO f n)]) ∧ Below w.heap.size w w' := by
  have K1 := Blk.new w 16 f 29
  have HB := Lib.hid ((Below.refl w.heap.size w).alloc (Nat.le_refl _) (.cells (mk 16 f) 29))
  by_cases hV : Vd f
  · have HV := Lib.hid hV
    by_cases hn : 0 ≤ n ∧ n ≤ 3
    · obtain ⟨h0, h1⟩ := hn
      obtain ⟨y1, y2⟩ := lt_yes (f := f) (n := n) ⟨hV, h0, h1⟩
      rw [y1, y2]
      clear y1 y2 hV
      obtain ⟨m, rfl⟩ := Int.eq_ofNat_of_zero_le h0
      have HC := Lib.hid (fun W => la_all m (by omega) f W HV.out)
      show Calls _ _ _ _ fun e w' => e = .returned (.tuple #[.bool (lastF m f), .bool true]) ∧ _
      generalize lastF m f = v at *
      generalize hm : ((m : Nat) : Int) = N at *
      clear hm
      go_enter Try.func49, Try.ntmps49
      go_wp2_with ((with_reducible show wpList _ _ _ (Oper.mk _ (Op.load 29 _) _ _ _ _ :: _) _ _); refine loadB (K1) rfl rfl rfl ?_)
      refine (l2Board_yes _ _ HV.out).mono ?_
      rintro e w1 ⟨rfl, hb⟩
      have K1 := K1.below hb K1.lt
      have HB : Hid (Below w.heap.size w w1) := HB.out.trans (hb.mono HB.out.size)
      clear hb
      go_wp2_with fail
      refine (l1In_yes _ 0 3 _ h0 h1).mono ?_
      rintro e w2 ⟨rfl, rfl⟩
      go_wp2_with ((with_reducible show wpList _ _ _ (Oper.mk _ (Op.load 29 _) _ _ _ _ :: _) _ _); refine loadB (K1) rfl rfl rfl ?_)
      refine (HC.out _).mono ?_
      rintro e w3 ⟨rfl, hb⟩
      have HB : Hid (Below w.heap.size w w3) := HB.out.trans (hb.mono HB.out.size)
      clear hb
      go_wp2_with fail
      go_ret2
      exact ⟨rfl, HB.out⟩
    · have hno : ¬ LastOk f n := fun h => hn h.2
      obtain ⟨y1, y2⟩ := lt_no hno
      rw [y1, y2]
      clear y1 y2
      have HN := Lib.hid (show n < 0 ∨ 3 < n by omega)
      clear hno hn
      go_enter Try.func49, Try.ntmps49
      go_wp2_with ((with_reducible show wpList _ _ _ (Oper.mk _ (Op.load 29 _) _ _ _ _ :: _) _ _); refine loadB (K1) rfl rfl rfl ?_)
      refine (l2Board_yes _ _ HV.out).mono ?_
      rintro e w1 ⟨rfl, hb⟩
      have K1 := K1.below hb K1.lt
      have HB : Hid (Below w.heap.size w w1) := HB.out.trans (hb.mono HB.out.size)
      clear hb
      go_wp2_with fail
      refine (l1In_no _ 0 3 _ HN.out).mono ?_
      rintro e w2 ⟨rfl, rfl⟩
      go_wp2_with fail
      go_ret2
      exact ⟨rfl, HB.out⟩
  · have hno : ¬ LastOk f n := fun h => hV h.1
    obtain ⟨y1, y2⟩ := lt_no hno
    rw [y1, y2]
    clear y1 y2
    have HV := Lib.hid hV
    clear hno hV
    go_enter Try.func49, Try.ntmps49
    go_wp2_with ((with_reducible show wpList _ _ _ (Oper.mk _ (Op.load 29 _) _ _ _ _ :: _) _ _); refine loadB (K1) rfl rfl rfl ?_)
    refine (l2Board_no _ _ HV.out).mono ?_
    rintro e w1 ⟨rfl, hb⟩
    have K1 := K1.below hb K1.lt
    have HB : Hid (Below w.heap.size w w1) := HB.out.trans (hb.mono HB.out.size)
    clear hb
    go_wp2_with fail
    go_ret2
    exact ⟨rfl, HB.out⟩
set_option maxHeartbeats 1000000 in
theorem implLasts_any (f : Nat → Int) (n : Int) (w : World) :
    Calls Try.prog 48 #[.agg (mk 16 f), .int .i64 n] w fun e w' => e = .returned (.tuple #[.bool (ltR f n), .bool (ltO f n)]) ∧ Below w.heap.size w w' := by
  have hmm := @run_makeMap Try.prog
  have K1 := Blk.new w 16 f 29
  have HB := Lib.hid ((Below.refl w.heap.size w).alloc (Nat.le_refl _) (.cells (mk 16 f) 29))
  by_cases hV : Vd f
  · have HV := Lib.hid hV
    by_cases hn : 0 ≤ n ∧ n ≤ 3
    · obtain ⟨h0, h1⟩ := hn
      obtain ⟨y1, y2⟩ := lt_yes (f := f) (n := n) ⟨hV, h0, h1⟩
      rw [y1, y2]
      clear y1 y2 hV
      obtain ⟨m, rfl⟩ := Int.eq_ofNat_of_zero_le h0
      have HC := Lib.hid (fun K W (hG : Good W K 0) => last_all8 m (by omega) f K 0 W HV.out hG (by have := cst_le (n := m) (by omega); omega))
      show Calls _ _ _ _ fun e w' => e = .returned (.tuple #[.bool (lastF m f), .bool true]) ∧ _
      generalize lastF m f = v at *
      have h3 : ¬ ((m : Nat) : Int) < 0 := by omega
      have h4 : ¬ ((m : Nat) : Int) > 3 := by omega
      generalize cst m = c at *
      generalize hm : ((m : Nat) : Int) = N at *
      clear hm
      go_enter Try.func48, Try.ntmps48
      go_wp2_with ((with_reducible show wpList _ _ _ (Oper.mk _ (Op.load 29 _) _ _ _ _ :: _) _ _); refine loadB (K1) rfl rfl rfl ?_)
      refine (implBoard_yes _ _ HV.out).mono ?_
      rintro e w1 ⟨rfl, hb⟩
      have K1 := K1.below hb K1.lt
      have HB : Hid (Below w.heap.size w w1) := HB.out.trans (hb.mono HB.out.size)
      clear hb
      have K1m := K1.alloc (.map #[] 0)
      go_wp2_with ((with_reducible show wpList _ _ _ (Oper.mk _ (Op.load 29 _) _ _ _ _ :: _) _ _); refine loadB (K1m) rfl rfl rfl ?_)
      refine (HC.out w1.heap.size _ (Good.made w1)).mono ?_
      rintro e w3 ⟨rfl, hv, _⟩
      have HB : Hid (Below w.heap.size w w3) := Via.under (HB.out.alloc HB.out.size _) hv HB.out.size
      clear hv
      go_wp2_with fail
      go_ret2
      exact ⟨rfl, HB.out⟩
    · have hno : ¬ LastOk f n := fun h => hn h.2
      obtain ⟨y1, y2⟩ := lt_no hno
      rw [y1, y2]
      clear y1 y2
      have HN := Lib.hid (show n < 0 ∨ 3 < n by omega)
      clear hno hn
      have hN := HN.out
      by_cases hl : n < 0
      · clear hN
        go_enter Try.func48, Try.ntmps48
        go_wp2_with ((with_reducible show wpList _ _ _ (Oper.mk _ (Op.load 29 _) _ _ _ _ :: _) _ _); refine loadB (K1) rfl rfl rfl ?_)
        refine (implBoard_yes _ _ HV.out).mono ?_
        rintro e w1 ⟨rfl, hb⟩
        have K1 := K1.below hb K1.lt
        have HB : Hid (Below w.heap.size w w1) := HB.out.trans (hb.mono HB.out.size)
        clear hb
        go_wp2_with fail
        go_ret2
        exact ⟨rfl, HB.out⟩
      · have hg : n > 3 := by omega
        clear hN
        go_enter Try.func48, Try.ntmps48
        go_wp2_with ((with_reducible show wpList _ _ _ (Oper.mk _ (Op.load 29 _) _ _ _ _ :: _) _ _); refine loadB (K1) rfl rfl rfl ?_)
        refine (implBoard_yes _ _ HV.out).mono ?_
        rintro e w1 ⟨rfl, hb⟩
        have K1 := K1.below hb K1.lt
        have HB : Hid (Below w.heap.size w w1) := HB.out.trans (hb.mono HB.out.size)
        clear hb
        go_wp2_with fail
        go_ret2
        exact ⟨rfl, HB.out⟩
  · have hno : ¬ LastOk f n := fun h => hV h.1
    obtain ⟨y1, y2⟩ := lt_no hno
    rw [y1, y2]
    clear y1 y2
    have HV := Lib.hid hV
    clear hno hV
    go_enter Try.func48, Try.ntmps48
    go_wp2_with ((with_reducible show wpList _ _ _ (Oper.mk _ (Op.load 29 _) _ _ _ _ :: _) _ _); refine loadB (K1) rfl rfl rfl ?_)
    refine (implBoard_no _ _ HV.out).mono ?_
    rintro e w1 ⟨rfl, hb⟩
    have K1 := K1.below hb K1.lt
    have HB : Hid (Below w.heap.size w w1) := HB.out.trans (hb.mono HB.out.size)
    clear hb
    go_wp2_with fail
    go_ret2
    exact ⟨rfl, HB.out⟩
set_option maxHeartbeats 1000000 in
theorem specLastsHow_any (f : Nat → Int) (w : World) :
    Calls Try.prog 51 #[.agg (mk 16 f)] w fun e w' => e = .returned (.tuple #[.int .i64 (hwR f), .bool (vdO f)]) ∧ Below w.heap.size w w' := by
  have K1 := Blk.new w 16 f 29
  have HB := Lib.hid ((Below.refl w.heap.size w).alloc (Nat.le_refl _) (.cells (mk 16 f) 29))
  by_cases hV : Vd f
  · have HV := Lib.hid hV
    rw [hwR_yes hV, vdO_yes hV]
    clear hV
    have HC := Lib.hid (fun k W (hk : k + 1 ≤ 3) => la_all (k + 1) hk f W HV.out)
    go_enter Try.func51, Try.ntmps51
    go_wp2_with ((with_reducible show wpList _ _ _ (Oper.mk _ (Op.load 29 _) _ _ _ _ :: _) _ _); refine loadB (K1) rfl rfl rfl ?_)
    refine (l2Board_yes _ _ HV.out).mono ?_
    rintro e w1 ⟨rfl, hb⟩
    have K1 := K1.below hb K1.lt
    have HB : Hid (Below w.heap.size w w1) := HB.out.trans (hb.mono HB.out.size)
    clear hb
    go_wp2_with fail
    go_loopg [4] 3 (fun gk s4 wr => ∃ k : Nat, k + gk = 3 ∧ s4 = .int .i64 k ∧ Hid (hwF f k = k) ∧ Blk wr w.heap.size 16 f 29 ∧ Hid (Below w.heap.size w wr))
    case atStart => exact ⟨0, by omega, rfl, rfl, K1, HB⟩
    case round =>
      obtain ⟨k, hkg, rfl, HW, K1, HB⟩ := hrel
      cases gk with
      | zero =>
        have hk : ¬ ((k : Int) < 3) := by omega
        obtain rfl : k = 3 := by omega
        clear hkg hk
        go_wp2_with fail
        go_ret2
        exact ⟨by rw [HW.out]; rfl, HB.out⟩
      | succ gk2 =>
        have hk8 : (k : Int) < 3 := by omega
        have hk0 : (0 : Int) ≤ (k : Int) := by omega
        have hk2 : k ≤ 2 := by omega
        have hka : ((k : Int) + 1) = ((k + 1 : Nat) : Int) := by omega
        have HKA := Lib.hid hka
        clear hka
        go_wp2_with (first | ((with_reducible show wpList _ _ _ (Oper.mk _ (Op.load 29 _) _ _ _ _ :: _) _ _); refine loadB (K1) rfl rfl rfl ?_) | ((with_reducible show wpList _ _ _ (Oper.mk _ (Op.load 29 _) _ _ _ (some _) :: _) _ _); refine loadgB (K1) rfl rfl rfl ?_))
        refine (HC.out k _ (by omega)).mono ?_
        rintro e w3 ⟨rfl, hb⟩
        have K1 := K1.below hb K1.lt
        have HB : Hid (Below w.heap.size w w3) := HB.out.trans (hb.mono HB.out.size)
        clear hb
        cases hl : lastF (k + 1) f with
        | true =>
          have HW2 : Hid (hwF f (k + 1) = k + 1) := hw_go HW.out hl
          clear hl
          go_wp2_with fail
          go_roundg gk2
          case rel => exact ⟨k + 1, by omega, by go_num, HW2, K1, HB⟩
          case measure => omega
        | false =>
          have HW2 : Hid (hwF f 3 = k) := by
            have := hw_stop HW.out hl (3 - k)
            show _ = _
            rwa [show k + (3 - k) = 3 by omega] at this
          clear hl
          go_wp2_with fail
          go_ret2
          exact ⟨by rw [HW2.out]; rfl, HB.out⟩
  · have HV := Lib.hid hV
    rw [hwR_no hV, vdO_no hV]
    clear hV
    go_enter Try.func51, Try.ntmps51
    go_wp2_with ((with_reducible show wpList _ _ _ (Oper.mk _ (Op.load 29 _) _ _ _ _ :: _) _ _); refine loadB (K1) rfl rfl rfl ?_)
    refine (l2Board_no _ _ HV.out).mono ?_
    rintro e w1 ⟨rfl, hb⟩
    have K1 := K1.below hb K1.lt
    have HB : Hid (Below w.heap.size w w1) := HB.out.trans (hb.mono HB.out.size)
    clear hb
    go_wp2_with fail
    go_ret2
    exact ⟨rfl, HB.out⟩
set_option maxHeartbeats 1000000 in
theorem implLastsHow_any (f : Nat → Int) (w : World) :
    Calls Try.prog 50 #[.agg (mk 16 f)] w fun e w' => e = .returned (.tuple #[.int .i64 (hwR f), .bool (vdO f)]) ∧ Below w.heap.size w w' := by
  have hmm := @run_makeMap Try.prog
  have K1 := Blk.new w 16 f 29
  have HB := Lib.hid ((Below.refl w.heap.size w).alloc (Nat.le_refl _) (.cells (mk 16 f) 29))
  by_cases hV : Vd f
  · have HV := Lib.hid hV
    rw [hwR_yes hV, vdO_yes hV]
    clear hV
    have HC := Lib.hid (fun k K m W (hk : k + 1 ≤ 3) (hG : Good W K m) (hm : m ≤ 33026) => last_all8 (k + 1) hk f K m W HV.out hG (by have := cst_le hk; omega))
    have HCL := Lib.hid (fun k (hk : k + 1 ≤ 3) => cst_le hk)
    go_enter Try.func50, Try.ntmps50
    go_wp2_with ((with_reducible show wpList _ _ _ (Oper.mk _ (Op.load 29 _) _ _ _ _ :: _) _ _); refine loadB (K1) rfl rfl rfl ?_)
    refine (implBoard_yes _ _ HV.out).mono ?_
    rintro e w1 ⟨rfl, hb⟩
    have K1 := K1.below hb K1.lt
    have HB : Hid (Below w.heap.size w w1) := HB.out.trans (hb.mono HB.out.size)
    clear hb
    go_wp2_with fail
    have HG : Hid (Good (w1.alloc (.map #[] 0)) w1.heap.size (0 * 16513)) := Good.made w1
    have K1 := K1.alloc (.map #[] 0)
    have HB1 := HB.out.size
    have HB : Hid (Below w.heap.size w (w1.alloc (.map #[] 0))) := HB.out.alloc HB.out.size _
    have hKM : w.heap.size ≤ w1.heap.size := HB1
    clear HB1
    generalize w1.alloc (.map #[] 0) = w2 at *
    generalize w1.heap.size = KM at *
    go_loopg [5] 3 (fun gk s5 wr => ∃ k : Nat, k + gk = 3 ∧ s5 = .int .i64 k ∧ Hid (hwF f k = k) ∧ Hid (Good wr KM (k * 16513)) ∧ Blk wr w.heap.size 16 f 29 ∧ Hid (Below w.heap.size w wr))
    case atStart => exact ⟨0, by omega, rfl, rfl, HG, K1, HB⟩
    case round =>
      obtain ⟨k, hkg, rfl, HW, HG, K1, HB⟩ := hrel
      cases gk with
      | zero =>
        have hk : ¬ ((k : Int) < 3) := by omega
        obtain rfl : k = 3 := by omega
        clear hkg hk
        go_wp2_with fail
        go_ret2
        exact ⟨by rw [HW.out]; rfl, HB.out⟩
      | succ gk2 =>
        have hk8 : (k : Int) < 3 := by omega
        have hk0 : (0 : Int) ≤ (k : Int) := by omega
        have hk2 : k ≤ 2 := by omega
        have hka : ((k : Int) + 1) = ((k + 1 : Nat) : Int) := by omega
        have HKA := Lib.hid hka
        clear hka
        go_wp2_with (first | ((with_reducible show wpList _ _ _ (Oper.mk _ (Op.load 29 _) _ _ _ _ :: _) _ _); refine loadB (K1) rfl rfl rfl ?_) | ((with_reducible show wpList _ _ _ (Oper.mk _ (Op.load 29 _) _ _ _ (some _) :: _) _ _); refine loadgB (K1) rfl rfl rfl ?_))
        refine (HC.out k KM _ _ (by omega) HG.out (by omega)).mono ?_
        rintro e w3 ⟨rfl, hv, hg⟩
        have K1 := hv.blk K1
        have HB : Hid (Below w.heap.size w w3) := Via.under HB.out hv hKM
        have HG : Hid (Good w3 KM ((k + 1) * 16513)) := by show Good _ _ _; exact hg.more (by have := HCL.out k (by omega); omega)
        clear hv hg
        cases hl : lastF (k + 1) f with
        | true =>
          have HW2 : Hid (hwF f (k + 1) = k + 1) := hw_go HW.out hl
          clear hl
          go_wp2_with fail
          go_roundg gk2
          case rel => exact ⟨k + 1, by omega, by go_num, HW2, HG, K1, HB⟩
          case measure => omega
        | false =>
          have HW2 : Hid (hwF f 3 = k) := by
            have := hw_stop HW.out hl (3 - k)
            show _ = _
            rwa [show k + (3 - k) = 3 by omega] at this
          clear hl
          go_wp2_with fail
          go_ret2
          exact ⟨by rw [HW2.out]; rfl, HB.out⟩
  · have HV := Lib.hid hV
    rw [hwR_no hV, vdO_no hV]
    clear hV
    go_enter Try.func50, Try.ntmps50
    go_wp2_with ((with_reducible show wpList _ _ _ (Oper.mk _ (Op.load 29 _) _ _ _ _ :: _) _ _); refine loadB (K1) rfl rfl rfl ?_)
    refine (implBoard_no _ _ HV.out).mono ?_
    rintro e w1 ⟨rfl, hb⟩
    have K1 := K1.below hb K1.lt
    have HB : Hid (Below w.heap.size w w1) := HB.out.trans (hb.mono HB.out.size)
    clear hb
    go_wp2_with fail
    go_ret2
    exact ⟨rfl, HB.out⟩
end Go.Proofs.Ytlboglcpbbnbcab
