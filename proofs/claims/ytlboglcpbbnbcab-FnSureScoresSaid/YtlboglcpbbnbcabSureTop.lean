/-
  The contracts of SureScore, BestSure and WorstReply, in the reference and in the program, for every board and number.
-/
import Derived.Test.YtlboglcpbbnbcabSpecSure2
import Derived.Test.YtlboglcpbbnbcabImplSlideBoard
namespace Go.Proofs.Ytlboglcpbbnbcab
open Go.RowKit Plain
attribute [local go_sem] store_new
set_option linter.unusedVariables false
set_option linter.unusedSimpArgs false
set_option maxHeartbeats 1000000 in
theorem specSureScore_any (f : Nat → Int) (n : Int) (w : World) :
    Calls Try.prog 68 #[.agg (mk 16 f), .int .i64 n] w fun e w' => e = .returned (.tuple #[.int .i64 (suR f n), .bool (suO f n)]) ∧ Below w.heap.size w w' := by
  have K1 := Blk.new w 16 f 29
  have HB := Lib.hid ((Below.refl w.heap.size w).alloc (Nat.le_refl _) (.cells (mk 16 f) 29))
  by_cases hV : Vd f
  · have HV := Lib.hid hV
    by_cases hn : 0 ≤ n ∧ n ≤ 2
    · obtain ⟨h0, h1⟩ := hn
      obtain ⟨y1, y2⟩ := su_yes ⟨hV, h0, h1⟩
      rw [y1, y2]
      clear y1 y2 hV
      obtain ⟨m, rfl⟩ := Int.eq_ofNat_of_zero_le h0
      have HC := Lib.hid (fun W => su_all m (by omega) f W HV.out)
      show Calls _ _ _ _ fun e w' => e = .returned (.tuple #[.int .i64 (suF m f), .bool true]) ∧ _
      generalize suF m f = v at *
      generalize hm : ((m : Nat) : Int) = N at *
      clear hm
      go_enter Try.func68, Try.ntmps68
      go_wp2_with ((with_reducible show wpList _ _ _ (Oper.mk _ (Op.load 29 _) _ _ _ _ :: _) _ _); refine loadB (K1) rfl rfl rfl ?_)
      refine (l2Board_yes _ _ HV.out).mono ?_
      rintro e w1 ⟨rfl, hb⟩
      have K1 := K1.below hb K1.lt
      have HB : Hid (Below w.heap.size w w1) := HB.out.trans (hb.mono HB.out.size)
      clear hb
      go_wp2_with fail
      refine (l1In_yes _ 0 2 _ h0 h1).mono ?_
      rintro e w2 ⟨rfl, rfl⟩
      go_wp2_with ((with_reducible show wpList _ _ _ (Oper.mk _ (Op.load 29 _) _ _ _ _ :: _) _ _); refine loadB (K1) rfl rfl rfl ?_)
      refine (HC.out _).mono ?_
      rintro e w3 ⟨wh, rfl, hb⟩
      have HB : Hid (Below w.heap.size w w3) := HB.out.trans (hb.mono HB.out.size)
      clear hb
      go_wp2_with fail
      go_ret2
      exact ⟨rfl, HB.out⟩
    · have hno : ¬ SureOk f n := fun h => hn h.2
      obtain ⟨y1, y2⟩ := su_no hno
      rw [y1, y2]
      clear y1 y2
      have HN := Lib.hid (show n < 0 ∨ 2 < n by omega)
      clear hno hn
      go_enter Try.func68, Try.ntmps68
      go_wp2_with ((with_reducible show wpList _ _ _ (Oper.mk _ (Op.load 29 _) _ _ _ _ :: _) _ _); refine loadB (K1) rfl rfl rfl ?_)
      refine (l2Board_yes _ _ HV.out).mono ?_
      rintro e w1 ⟨rfl, hb⟩
      have K1 := K1.below hb K1.lt
      have HB : Hid (Below w.heap.size w w1) := HB.out.trans (hb.mono HB.out.size)
      clear hb
      go_wp2_with fail
      refine (l1In_no _ 0 2 _ HN.out).mono ?_
      rintro e w2 ⟨rfl, rfl⟩
      go_wp2_with fail
      go_ret2
      exact ⟨rfl, HB.out⟩
  · have hno : ¬ SureOk f n := fun h => hV h.1
    obtain ⟨y1, y2⟩ := su_no hno
    rw [y1, y2]
    clear y1 y2
    have HV := Lib.hid hV
    clear hno hV
    go_enter Try.func68, Try.ntmps68
    go_wp2_with ((with_reducible show wpList _ _ _ (Oper.mk _ (Op.load 29 _) _ _ _ _ :: _) _ _); refine loadB (K1) rfl rfl rfl ?_)
    refine (l2Board_no _ _ HV.out).mono ?_
    rintro e w1 ⟨rfl, hb⟩
    have K1 := K1.below hb K1.lt
    have HB : Hid (Below w.heap.size w w1) := HB.out.trans (hb.mono HB.out.size)
    clear hb
    go_wp2_with fail
    go_ret2
    exact ⟨rfl, HB.out⟩
theorem bs_zero (f c : Nat → Int) (k : Nat) : (bsF f c k).ok = false → (bsF f c k).d = 0 := by
  induction k with
  | zero => intro _; rfl
  | succ k ih =>
    intro h
    by_cases hm : isMv f k = true
    · by_cases h2 : (bsF f c k).ok = false ∨ c k > (bsF f c k).v
      · rw [bs_yes hm h2] at h; cases h
      · rw [bs_no hm h2] at h ⊢; exact ih h
    · have hm : isMv f k = false := by simpa using hm
      rw [bs_still hm] at h ⊢; exact ih h
theorem bb_zero (m : Nat) (f : Nat → Int) (k : Nat) : (bbF m f k).ok = false → (bbF m f k).d = 0 := bs_zero f _ k
theorem l1Most_fst (a b : Int) (w : World) (h : a > b) : Calls Try.prog 89 #[.int .i64 a, .int .i64 b] w fun e w' => e = .returned (.int .i64 a) ∧ w' = w := by
  go_enter Try.func89, Try.ntmps89
  go_wp2_with fail
  go_ret
  exact ⟨rfl, rfl⟩
theorem l1Most_snd (a b : Int) (w : World) (h : ¬ a > b) : Calls Try.prog 89 #[.int .i64 a, .int .i64 b] w fun e w' => e = .returned (.int .i64 b) ∧ w' = w := by
  go_enter Try.func89, Try.ntmps89
  go_wp2_with fail
  go_ret
  exact ⟨rfl, rfl⟩
set_option maxHeartbeats 1000000 in
theorem specBestSure_any (f : Nat → Int) (n : Int) (w : World) :
    Calls Try.prog 70 #[.agg (mk 16 f), .int .i64 n] w fun e w' => e = .returned (.tuple #[.int .i64 ((beR f n).d : Int), .bool (beR f n).ok]) ∧ Below w.heap.size w w' := by
  have K1 := Blk.new w 16 f 29
  have HB := Lib.hid ((Below.refl w.heap.size w).alloc (Nat.le_refl _) (.cells (mk 16 f) 29))
  by_cases hV : Vd f
  · have HV := Lib.hid hV
    by_cases hn : 1 ≤ n ∧ n ≤ 2
    · obtain ⟨h0, h1⟩ := hn
      have hy := be_yes (f := f) (n := n) ⟨hV, h0, h1⟩
      have ho : (beR f n).ok = (bbF (n.toNat - 1) f 4).ok := by rw [hy]
      rw [hy]
      clear hy ho
      obtain ⟨m, hm⟩ := Int.eq_ofNat_of_zero_le (show 0 ≤ n - 1 by omega)
      have hm2 : n.toNat - 1 = m := by omega
      rw [hm2]
      have HC := Lib.hid (fun W => sure_of_least (le_all m (by omega)) (by omega) n hm f W HV.out)
      have HDL : Hid (dirN (bbF m f 4) < 0 ↔ (bbF m f 4).ok = false) := dirN_lt
      have HDY : Hid ((bbF m f 4).ok = true → dirN (bbF m f 4) = ((bbF m f 4).d : Int)) := dirN_yes
      have HDZ : Hid ((bbF m f 4).ok = false → (bbF m f 4).d = 0) := bb_zero m f 4
      have HDV : Hid (dirN (bbF m f 4) = dirN (bbF m f 4)) := rfl
      have HD4 : Hid (-1 ≤ dirN (bbF m f 4) ∧ dirN (bbF m f 4) ≤ 4) := dirN_bd ((bb_bd m hV 4).2.2)
      clear hV hm hm2
      generalize bbF m f 4 = S at *
      go_enter Try.func70, Try.ntmps70
      go_wp2_with ((with_reducible show wpList _ _ _ (Oper.mk _ (Op.load 29 _) _ _ _ _ :: _) _ _); refine loadB (K1) rfl rfl rfl ?_)
      refine (l2Board_yes _ _ HV.out).mono ?_
      rintro e w1 ⟨rfl, hb⟩
      have K1 := K1.below hb K1.lt
      have HB : Hid (Below w.heap.size w w1) := HB.out.trans (hb.mono HB.out.size)
      clear hb
      go_wp2_with fail
      refine (l1In_yes _ 1 2 _ h0 h1).mono ?_
      rintro e w2 ⟨rfl, rfl⟩
      go_wp2_with ((with_reducible show wpList _ _ _ (Oper.mk _ (Op.load 29 _) _ _ _ _ :: _) _ _); refine loadB (K1) rfl rfl rfl ?_)
      refine (HC.out _).mono ?_
      rintro e w3 ⟨rfl, hb⟩
      have HB : Hid (Below w.heap.size w w3) := HB.out.trans (hb.mono HB.out.size)
      clear hb
      have hd := HD4.out
      have hd1 := hd.1
      have hd2 := hd.2
      clear hd
      by_cases ho : S.ok = true
      · have hdn := HDY.out ho
        have hge : dirN S ≥ 0 := by omega
        have hgt : dirN S > 0 ∨ dirN S = 0 := by omega
        rcases hgt with hgt | hgt
        · have HX : Hid (dirN S = (S.d : Int) ∧ S.ok = true) := ⟨hdn, ho⟩
          clear hdn ho
          generalize dirN S = dn at *
          go_wp2_with fail
          refine (l1Most_fst _ _ _ (by omega)).mono ?_
          rintro e w4 ⟨rfl, rfl⟩
          go_wp2_with fail
          go_ret2
          exact ⟨by rw [HX.out.2, ← HX.out.1]; rfl, HB.out⟩
        · have HX : Hid (dirN S = (S.d : Int) ∧ S.ok = true) := ⟨hdn, ho⟩
          clear hdn ho hge
          generalize dirN S = dn at *
          subst hgt
          go_wp2_with fail
          refine (l1Most_snd _ _ _ (by omega)).mono ?_
          rintro e w4 ⟨rfl, rfl⟩
          go_wp2_with fail
          go_ret2
          exact ⟨by rw [HX.out.2, ← HX.out.1]; rfl, HB.out⟩
      · have ho : S.ok = false := by simpa using ho
        have hl : dirN S < 0 := HDL.out.2 ho
        have hge : decide (0 ≤ dirN S) = false := decide_eq_false (by omega)
        have HX : Hid (S.d = 0 ∧ S.ok = false) := ⟨HDZ.out ho, ho⟩
        clear ho
        generalize dirN S = dn at *
        go_wp2_with fail
        refine (l1Most_snd _ _ _ (by omega)).mono ?_
        rintro e w4 ⟨rfl, rfl⟩
        go_wp2_with fail
        go_ret2
        exact ⟨by rw [HX.out.1, HX.out.2]; rfl, HB.out⟩
    · have hno : ¬ BestOk f n := fun h => hn h.2
      rw [be_no hno]
      have HN := Lib.hid (show n < 1 ∨ 2 < n by omega)
      clear hno hn
      go_enter Try.func70, Try.ntmps70
      go_wp2_with ((with_reducible show wpList _ _ _ (Oper.mk _ (Op.load 29 _) _ _ _ _ :: _) _ _); refine loadB (K1) rfl rfl rfl ?_)
      refine (l2Board_yes _ _ HV.out).mono ?_
      rintro e w1 ⟨rfl, hb⟩
      have K1 := K1.below hb K1.lt
      have HB : Hid (Below w.heap.size w w1) := HB.out.trans (hb.mono HB.out.size)
      clear hb
      go_wp2_with fail
      refine (l1In_no _ 1 2 _ HN.out).mono ?_
      rintro e w2 ⟨rfl, rfl⟩
      go_wp2_with fail
      go_ret2
      exact ⟨rfl, HB.out⟩
  · have hno : ¬ BestOk f n := fun h => hV h.1
    rw [be_no hno]
    have HV := Lib.hid hV
    clear hno hV
    go_enter Try.func70, Try.ntmps70
    go_wp2_with ((with_reducible show wpList _ _ _ (Oper.mk _ (Op.load 29 _) _ _ _ _ :: _) _ _); refine loadB (K1) rfl rfl rfl ?_)
    refine (l2Board_no _ _ HV.out).mono ?_
    rintro e w1 ⟨rfl, hb⟩
    have K1 := K1.below hb K1.lt
    have HB : Hid (Below w.heap.size w w1) := HB.out.trans (hb.mono HB.out.size)
    clear hb
    go_wp2_with fail
    go_ret2
    exact ⟨rfl, HB.out⟩
set_option maxHeartbeats 1000000 in
theorem implSureScore_any (f : Nat → Int) (n : Int) (w : World) :
    Calls Try.prog 67 #[.agg (mk 16 f), .int .i64 n] w fun e w' => e = .returned (.tuple #[.int .i64 (suR f n), .bool (suO f n)]) ∧ Below w.heap.size w w' := by
  have K1 := Blk.new w 16 f 29
  have HB := Lib.hid ((Below.refl w.heap.size w).alloc (Nat.le_refl _) (.cells (mk 16 f) 29))
  by_cases hV : Vd f
  · have HV := Lib.hid hV
    by_cases hn : 0 ≤ n ∧ n ≤ 2
    · obtain ⟨h0, h1⟩ := hn
      obtain ⟨y1, y2⟩ := su_yes ⟨hV, h0, h1⟩
      rw [y1, y2]
      clear y1 y2 hV
      obtain ⟨m, rfl⟩ := Int.eq_ofNat_of_zero_le h0
      have HC := Lib.hid (fun W => sc_all m (by omega) f W HV.out)
      show Calls _ _ _ _ fun e w' => e = .returned (.tuple #[.int .i64 (suF m f), .bool true]) ∧ _
      generalize suF m f = v at *
      have h3 : ¬ ((m : Nat) : Int) < 0 := by omega
      have h4 : ¬ ((m : Nat) : Int) > 2 := by omega
      generalize hm : ((m : Nat) : Int) = N at *
      clear hm
      go_enter Try.func67, Try.ntmps67
      go_wp2_with ((with_reducible show wpList _ _ _ (Oper.mk _ (Op.load 29 _) _ _ _ _ :: _) _ _); refine loadB (K1) rfl rfl rfl ?_)
      refine (implBoard_yes _ _ HV.out).mono ?_
      rintro e w1 ⟨rfl, hb⟩
      have K1 := K1.below hb K1.lt
      have HB : Hid (Below w.heap.size w w1) := HB.out.trans (hb.mono HB.out.size)
      clear hb
      go_wp2_with ((with_reducible show wpList _ _ _ (Oper.mk _ (Op.load 29 _) _ _ _ _ :: _) _ _); refine loadB (K1) rfl rfl rfl ?_)
      refine (HC.out _).mono ?_
      rintro e w3 ⟨rfl, hb⟩
      have HB : Hid (Below w.heap.size w w3) := HB.out.trans (hb.mono HB.out.size)
      clear hb
      go_wp2_with fail
      go_ret2
      exact ⟨rfl, HB.out⟩
    · have hno : ¬ SureOk f n := fun h => hn h.2
      obtain ⟨y1, y2⟩ := su_no hno
      rw [y1, y2]
      clear y1 y2
      have HN := Lib.hid (show n < 0 ∨ 2 < n by omega)
      clear hno hn
      have hN := HN.out
      by_cases hl : n < 0
      · clear hN
        go_enter Try.func67, Try.ntmps67
        go_wp2_with ((with_reducible show wpList _ _ _ (Oper.mk _ (Op.load 29 _) _ _ _ _ :: _) _ _); refine loadB (K1) rfl rfl rfl ?_)
        refine (implBoard_yes _ _ HV.out).mono ?_
        rintro e w1 ⟨rfl, hb⟩
        have K1 := K1.below hb K1.lt
        have HB : Hid (Below w.heap.size w w1) := HB.out.trans (hb.mono HB.out.size)
        clear hb
        go_wp2_with fail
        go_ret2
        exact ⟨rfl, HB.out⟩
      · have hg : n > 2 := by omega
        clear hN
        go_enter Try.func67, Try.ntmps67
        go_wp2_with ((with_reducible show wpList _ _ _ (Oper.mk _ (Op.load 29 _) _ _ _ _ :: _) _ _); refine loadB (K1) rfl rfl rfl ?_)
        refine (implBoard_yes _ _ HV.out).mono ?_
        rintro e w1 ⟨rfl, hb⟩
        have K1 := K1.below hb K1.lt
        have HB : Hid (Below w.heap.size w w1) := HB.out.trans (hb.mono HB.out.size)
        clear hb
        go_wp2_with fail
        go_ret2
        exact ⟨rfl, HB.out⟩
  · have hno : ¬ SureOk f n := fun h => hV h.1
    obtain ⟨y1, y2⟩ := su_no hno
    rw [y1, y2]
    clear y1 y2
    have HV := Lib.hid hV
    clear hno hV
    go_enter Try.func67, Try.ntmps67
    go_wp2_with ((with_reducible show wpList _ _ _ (Oper.mk _ (Op.load 29 _) _ _ _ _ :: _) _ _); refine loadB (K1) rfl rfl rfl ?_)
    refine (implBoard_no _ _ HV.out).mono ?_
    rintro e w1 ⟨rfl, hb⟩
    have K1 := K1.below hb K1.lt
    have HB : Hid (Below w.heap.size w w1) := HB.out.trans (hb.mono HB.out.size)
    clear hb
    go_wp2_with fail
    go_ret2
    exact ⟨rfl, HB.out⟩
set_option maxHeartbeats 1000000 in
theorem implBestSure_any (f : Nat → Int) (n : Int) (w : World) :
    Calls Try.prog 69 #[.agg (mk 16 f), .int .i64 n] w fun e w' => e = .returned (.tuple #[.int .i64 ((beR f n).d : Int), .bool (beR f n).ok]) ∧ Below w.heap.size w w' := by
  have K1 := Blk.new w 16 f 29
  have HB := Lib.hid ((Below.refl w.heap.size w).alloc (Nat.le_refl _) (.cells (mk 16 f) 29))
  by_cases hV : Vd f
  · have HV := Lib.hid hV
    by_cases hn : 1 ≤ n ∧ n ≤ 2
    · obtain ⟨h0, h1⟩ := hn
      have hy := be_yes (f := f) (n := n) ⟨hV, h0, h1⟩
      rw [hy]
      clear hy
      obtain ⟨m, hm⟩ := Int.eq_ofNat_of_zero_le (show 0 ≤ n - 1 by omega)
      have hm2 : n.toNat - 1 = m := by omega
      rw [hm2]
      have HC := Lib.hid (fun W => best_of_wr (wr_all m (by omega)) (by omega) n hm f W HV.out)
      have h3 : ¬ n < 1 := by omega
      have h4 : ¬ n > 2 := by omega
      clear hV hm hm2
      generalize bbF m f 4 = S at *
      go_enter Try.func69, Try.ntmps69
      go_wp2_with ((with_reducible show wpList _ _ _ (Oper.mk _ (Op.load 29 _) _ _ _ _ :: _) _ _); refine loadB (K1) rfl rfl rfl ?_)
      refine (implBoard_yes _ _ HV.out).mono ?_
      rintro e w1 ⟨rfl, hb⟩
      have K1 := K1.below hb K1.lt
      have HB : Hid (Below w.heap.size w w1) := HB.out.trans (hb.mono HB.out.size)
      clear hb
      go_wp2_with ((with_reducible show wpList _ _ _ (Oper.mk _ (Op.load 29 _) _ _ _ _ :: _) _ _); refine loadB (K1) rfl rfl rfl ?_)
      refine (HC.out _).mono ?_
      rintro e w3 ⟨rfl, hb⟩
      have HB : Hid (Below w.heap.size w w3) := HB.out.trans (hb.mono HB.out.size)
      clear hb
      go_wp2_with fail
      go_ret2
      exact ⟨rfl, HB.out⟩
    · have hno : ¬ BestOk f n := fun h => hn h.2
      rw [be_no hno]
      have HN := Lib.hid (show n < 1 ∨ 2 < n by omega)
      clear hno hn
      have hN := HN.out
      by_cases hl : n < 1
      · clear hN
        go_enter Try.func69, Try.ntmps69
        go_wp2_with ((with_reducible show wpList _ _ _ (Oper.mk _ (Op.load 29 _) _ _ _ _ :: _) _ _); refine loadB (K1) rfl rfl rfl ?_)
        refine (implBoard_yes _ _ HV.out).mono ?_
        rintro e w1 ⟨rfl, hb⟩
        have K1 := K1.below hb K1.lt
        have HB : Hid (Below w.heap.size w w1) := HB.out.trans (hb.mono HB.out.size)
        clear hb
        go_wp2_with fail
        go_ret2
        exact ⟨rfl, HB.out⟩
      · have hg : n > 2 := by omega
        clear hN
        go_enter Try.func69, Try.ntmps69
        go_wp2_with ((with_reducible show wpList _ _ _ (Oper.mk _ (Op.load 29 _) _ _ _ _ :: _) _ _); refine loadB (K1) rfl rfl rfl ?_)
        refine (implBoard_yes _ _ HV.out).mono ?_
        rintro e w1 ⟨rfl, hb⟩
        have K1 := K1.below hb K1.lt
        have HB : Hid (Below w.heap.size w w1) := HB.out.trans (hb.mono HB.out.size)
        clear hb
        go_wp2_with fail
        go_ret2
        exact ⟨rfl, HB.out⟩
  · have hno : ¬ BestOk f n := fun h => hV h.1
    rw [be_no hno]
    have HV := Lib.hid hV
    clear hno hV
    go_enter Try.func69, Try.ntmps69
    go_wp2_with ((with_reducible show wpList _ _ _ (Oper.mk _ (Op.load 29 _) _ _ _ _ :: _) _ _); refine loadB (K1) rfl rfl rfl ?_)
    refine (implBoard_no _ _ HV.out).mono ?_
    rintro e w1 ⟨rfl, hb⟩
    have K1 := K1.below hb K1.lt
    have HB : Hid (Below w.heap.size w w1) := HB.out.trans (hb.mono HB.out.size)
    clear hb
    go_wp2_with fail
    go_ret2
    exact ⟨rfl, HB.out⟩
end Go.Proofs.Ytlboglcpbbnbcab
