/-
  The contracts of HighestIn in the reference and in the program.
-/
import Derived.Test.YtekdodlkimgbhaaRepImpl
import Derived.Test.YtekdodlkimgbhaaHighest
namespace Go.Proofs.Ytekdodlkimgbhaa
open Go.RowKit Plain
attribute [local go_sem] store_new
set_option linter.unusedVariables false
set_option linter.unusedSimpArgs false
theorem hiF_same {f g : Nat → Int} : ∀ {k}, (∀ i, i < k → f i = g i) → hiF f k = hiF g k
  | 0, _ => rfl
  | k + 1, e => by
    have ih := hiF_same (k := k) fun i hi => e i (by omega)
    unfold hiF
    rw [ih, e k (by omega)]
theorem vd_same {f g : Nat → Int} (e : ∀ i, i < 16 → f i = g i) : Vd f ↔ Vd g :=
  ⟨fun q i hi => by rw [← e i hi]; exact q i hi, fun q i hi => by rw [e i hi]; exact q i hi⟩
theorem hiT_same {f g : Nat → Int} (e : ∀ i, i < 16 → f i = g i) : hiT f = hiT g := by
  unfold hiT
  simp only [vd_same e, hiF_same e]
set_option maxHeartbeats 4000000 in
set_option maxRecDepth 20000 in
theorem specHin_any (f : Nat → Int) (v : Value) (n : Nat) (h : Nat → Int) (w : World) (hv : KRow 4 w v n h) (hn : n ≤ 1048576) :
    Calls Try.prog 36 #[.agg (rpl f v)] w fun e w' => e = .returned (.tuple #[.int .i64 (hinT f h n), .int .i64 (hinK f h n), .bool (hinO f h n)]) ∧ Below w.heap.size w w' := by
  have z2 := zero2
  have K1 := Rp.new w f v 34
  have HB0 := Lib.hid ((Below.refl w.heap.size w).alloc (Nat.le_refl _) (.cells (rpl f v) 34))
  have HV := Lib.hid (hv.below ((Below.refl w.heap.size w).alloc (Nat.le_refl _) (.cells (rpl f v) 34)))
  have HCon := l11Boards_any f v n h _ HV.out hn
  by_cases hR : RpOk f h n
  · obtain ⟨y1, y2, y3⟩ := hinR_yes hR
    rw [y1, y2, y3]
    clear y1 y2 y3
    have HE : Hid (rbR f h n = rbL f h (n + 1)) := by show _ = _; unfold rbR; rw [if_pos hR]
    rw [rplO_yes hR, HE.out, rbL_len] at HCon
    have HCon := Lib.hid HCon
    have h40 := hR.2.1
    have HBD := Lib.hid (fun k => hin_bd (h := h) hR.1 k)
    have HVK := Lib.hid (fun k => hR.vd k)
    clear hR HE
    go_enter Try.func36, Try.ntmps36
    go_wp2_with ((with_reducible show wpList _ _ _ (Oper.mk _ (Op.load 34 _) _ _ _ _ :: _) _ _); refine loadRp (K1) rfl rfl rfl ?_)
    refine HCon.out.mono ?_
    clear HCon
    rintro e w1 ⟨u, rfl, ⟨g, cap, rfl⟩, ho, hb⟩
    have HB : Hid (Below w.heap.size w w1) := HB0.out.trans (hb.mono HB0.out.size)
    have HLN : Hid ((rbL f h (n + 1)).length = n + 1) := rbL_len f h _
    obtain ⟨_, _, e1, _, CO⟩ := KRow.of_list (rbL_all f h (n + 1)) (OwnsL.len HLN.out ho)
    cases e1
    rw [HLN.out] at CO
    clear hb HB0 ho K1 HV
    go_wp2_with fail
    go_loopg [8, 9, 10] (n + 1) (fun gk s8 s9 s10 wr => ∃ k : Nat, k + gk = n + 1 ∧ s10 = .int .i64 k ∧ s8 = .int .i64 (hinP f h k).1 ∧ s9 = .int .i64 ((hinP f h k).2 : Int) ∧ CAt wr g ((n + 1) * 16) (flatF (rbL f h (n + 1))) ∧ Hid (Below w.heap.size w wr))
    case atStart => exact ⟨0, by omega, rfl, rfl, rfl, CO, HB⟩
    case round =>
      clear CO HB
      obtain ⟨k, hkg, rfl, rfl, rfl, CO, HB⟩ := hrel
      cases gk with
      | zero =>
        have hk : ¬ ((k : Int) < (n : Int) + 1) := by omega
        obtain rfl : k = n + 1 := by omega
        clear hkg
        go_wp2_with fail
        go_ret3
        exact ⟨rfl, HB.out⟩
      | succ gk2 =>
        have hk8 : (k : Int) < (n : Int) + 1 := by omega
        have hk0 : (0 : Int) ≤ (k : Int) := by omega
        have hkk : ¬ ((n : Int) + 1 ≤ (k : Int)) := by omega
        have HFM : Hid (mk 16 (fun i => flatF (rbL f h (n + 1)) (k * 16 + i)) = mk 16 (pyB f h k)) := by
          show _ = _
          rw [flatF_mk (rbL_all f h _) (rbL_get f h (by omega))]
          exact mk_congr fun i hi => fn_cl _ i hi
        have HT := Lib.hid (hi_yes (HVK.out k))
        have HY := Lib.hid (hin_yes (f := f) (h := h) (k := k))
        have HNo := Lib.hid (hin_no (f := f) (h := h) (k := k))
        have hbd := HBD.out k
        go_wp2_with ((with_reducible show wpList _ _ _ (Oper.mk _ (Op.load 31 _) _ _ _ _ :: _) _ _); refine loadAB (CO) (by omega) rfl rfl rfl ?_)
        rw [HFM.out]
        refine (specHigh_any (pyB f h k) _).mono ?_
        rw [HT.out.1, HT.out.2.1, HT.out.2.2]
        rintro e w2 ⟨rfl, hb⟩
        have CO := CO.below hb
        have HB2 := HB.out.trans (hb.mono HB.out.size)
        clear hb HFM HT HB
        generalize hC : cellF (hiF (pyB f h k) 16).2 = C at *
        clear hC
        have CO := CO.alloc (.cells (mk 2 C) 44)
        have HB : Hid (Below w.heap.size w (w2.alloc (.cells (mk 2 C) 44))) := HB2.alloc HB2.size _
        clear HB2
        generalize (hiF (pyB f h k) 16).1 = T at *
        by_cases hlt : (hinP f h k).1 < T
        · have hO : decide (0 < T) = true := by simp; omega
          rw [hO]
          have HQ := Lib.hid (HY.out hlt)
          clear HY HNo
          generalize (hinP f h k).1 = X at *
          go_wp2_with fail
          go_roundg gk2
          case rel => exact ⟨k + 1, by omega, by go_num, by rw [HQ.out], by rw [HQ.out], CO, HB⟩
          case measure => omega
        · have HQ := Lib.hid (HNo.out (Int.not_lt.1 hlt))
          clear HY HNo
          have HX : Hid ((hinP f h k).1 = (hinP f h (k + 1)).1 ∧ (hinP f h k).2 = (hinP f h (k + 1)).2) := ⟨by rw [HQ.out], by rw [HQ.out]⟩
          cases hO : decide (0 < T) with
          | true =>
            go_wp2_with fail
            go_roundg gk2
            case rel => exact ⟨k + 1, by omega, by go_num, by rw [HX.out.1], by rw [HX.out.2], CO, HB⟩
            case measure => omega
          | false =>
            go_wp2_with fail
            go_roundg gk2
            case rel => exact ⟨k + 1, by omega, by go_num, by rw [HX.out.1], by rw [HX.out.2], CO, HB⟩
            case measure => omega
  · obtain ⟨y1, y2, y3⟩ := hinR_no hR
    rw [y1, y2, y3]
    clear y1 y2 y3
    have HE : Hid (rbR f h n = []) := by show _ = _; unfold rbR; rw [if_neg hR]
    rw [rplO_no hR, HE.out] at HCon
    have HCon := Lib.hid HCon
    clear hR HE
    go_enter Try.func36, Try.ntmps36
    go_wp2_with ((with_reducible show wpList _ _ _ (Oper.mk _ (Op.load 34 _) _ _ _ _ :: _) _ _); refine loadRp (K1) rfl rfl rfl ?_)
    refine HCon.out.mono ?_
    clear HCon
    rintro e w1 ⟨u, rfl, ⟨g, cap, rfl⟩, ho, hb⟩
    have HB : Hid (Below w.heap.size w w1) := HB0.out.trans (hb.mono HB0.out.size)
    clear hb HB0 ho K1 HV
    go_wp2_with fail
    go_loop [8, 9, 10] (fun s8 s9 s10 => s8 = .int .i64 0 ∧ s9 = .int .i64 0 ∧ s10 = .int .i64 0) (fun _ _ _ => 0)
    case atStart => exact ⟨rfl, rfl, rfl⟩
    case round =>
      obtain ⟨rfl, rfl, rfl⟩ := hrel
      go_wp2_with fail
      go_ret3
      exact ⟨rfl, HB.out⟩
set_option maxHeartbeats 4000000 in
set_option maxRecDepth 20000 in
theorem implHin_any (f : Nat → Int) (v : Value) (n : Nat) (h : Nat → Int) (w : World) (hv : KRow 4 w v n h) (hn : n ≤ 1048576) :
    Calls Try.prog 37 #[.agg (rpl f v)] w fun e w' => e = .returned (.tuple #[.int .i64 (hinT f h n), .int .i64 (hinK f h n), .bool (hinO f h n)]) ∧ Below w.heap.size w w' := by
  have z2 := zero2
  have z16 := zero16
  have K1 := Rp.new w f v 34
  have HB0 := Lib.hid ((Below.refl w.heap.size w).alloc (Nat.le_refl _) (.cells (rpl f v) 34))
  have HV := Lib.hid (hv.below ((Below.refl w.heap.size w).alloc (Nat.le_refl _) (.cells (rpl f v) 34)))
  have HCon := implIs_any f v n h _ HV.out hn
  by_cases hR : RpOk f h n
  · obtain ⟨y1, y2, y3⟩ := hinR_yes hR
    rw [y1, y2, y3]
    clear y1 y2 y3
    rw [rplO_yes hR] at HCon
    have HCon := Lib.hid HCon
    have h40 := hR.2.1
    have HBD := Lib.hid (fun k => hin_bd (h := h) hR.1 k)
    have HVK := Lib.hid (fun k => hR.vd k)
    have HR := Lib.hid hR
    clear hR
    go_enter Try.func37, Try.ntmps37
    go_wp2_with ((with_reducible show wpList _ _ _ (Oper.mk _ (Op.load 34 _) _ _ _ _ :: _) _ _); refine loadRp (K1) rfl rfl rfl ?_)
    refine HCon.out.mono ?_
    clear HCon
    rintro e w1 ⟨rfl, hb⟩
    have K1 := K1.below hb K1.lt
    have HB1 := Lib.hid (HB0.out.trans (hb.mono HB0.out.size))
    have HV := Lib.hid (HV.out.below hb)
    clear hb HB0
    go_wp2_with ((with_reducible show wpList _ _ _ (Oper.mk _ (Op.load 34 _) _ _ _ _ :: _) _ _); refine loadRp (K1) rfl rfl rfl ?_)
    refine (repBoards_any f _ n h _ HV.out HR.out).mono ?_
    rintro e w2 ⟨g, cap, rfl, ho, hb⟩
    have HB : Hid (Below w.heap.size w w2) := HB1.out.trans (hb.mono HB1.out.size)
    have HLN : Hid ((rbL f h (n + 1)).length = n + 1) := rbL_len f h _
    obtain ⟨_, _, e1, _, CO⟩ := KRow.of_list (rbL_all f h (n + 1)) (OwnsL.len HLN.out ho)
    cases e1
    rw [HLN.out] at CO
    clear hb ho K1 HV HB1
    go_wp2_with fail
    go_loopg [5, 6, 18] (n + 1) (fun gk s8 s9 s10 wr => ∃ k : Nat, k + gk = n + 1 ∧ s10 = .int .i64 k ∧ s8 = .int .i64 (hinP f h k).1 ∧ s9 = .int .i64 ((hinP f h k).2 : Int) ∧ CAt wr g ((n + 1) * 16) (flatF (rbL f h (n + 1))) ∧ Hid (Below w.heap.size w wr))
    case atStart => exact ⟨0, by omega, rfl, rfl, rfl, CO, HB⟩
    case round =>
      clear CO HB
      obtain ⟨k, hkg, rfl, rfl, rfl, CO, HB⟩ := hrel
      cases gk with
      | zero =>
        have hk : ¬ ((k : Int) < (n : Int) + 1) := by omega
        obtain rfl : k = n + 1 := by omega
        clear hkg
        go_wp2_with fail
        go_ret3
        exact ⟨rfl, HB.out⟩
      | succ gk2 =>
        have hk8 : (k : Int) < (n : Int) + 1 := by omega
        have hk0 : (0 : Int) ≤ (k : Int) := by omega
        have hkk : ¬ ((n : Int) + 1 ≤ (k : Int)) := by omega
        have HFM : Hid (mk 16 (fun i => flatF (rbL f h (n + 1)) (k * 16 + i)) = mk 16 (pyB f h k)) := by
          show _ = _
          rw [flatF_mk (rbL_all f h _) (rbL_get f h (by omega))]
          exact mk_congr fun i hi => fn_cl _ i hi
        have HT := Lib.hid (hi_yes (HVK.out k))
        have HY := Lib.hid (hin_yes (f := f) (h := h) (k := k))
        have HNo := Lib.hid (hin_no (f := f) (h := h) (k := k))
        have hbd := HBD.out k
        have K8 := Blk.new wr 16 (fun i => flatF (rbL f h (n + 1)) (k * 16 + i)) 31
        have CO8 := CO.alloc (.cells (mk 16 (fun i => flatF (rbL f h (n + 1)) (k * 16 + i))) 31)
        have HB8 : Hid (Below w.heap.size w (wr.alloc (.cells (mk 16 (fun i => flatF (rbL f h (n + 1)) (k * 16 + i))) 31))) := HB.out.alloc HB.out.size _
        go_wp2_with (first | ((with_reducible show wpList _ _ _ (Oper.mk _ (Op.load 31 _) _ _ _ _ :: _) _ _); refine loadAB (CO) (by omega) rfl rfl rfl ?_) | ((with_reducible show wpList _ _ _ (Oper.mk _ (Op.load 31 _) _ _ _ _ :: _) _ _); refine loadB (K8) rfl rfl rfl ?_))
        clear CO HB K8
        refine (implHigh_any (fun i => flatF (rbL f h (n + 1)) (k * 16 + i)) _).mono ?_
        have HTe : Hid (hiT (fun i => flatF (rbL f h (n + 1)) (k * 16 + i)) = (hiF (pyB f h k) 16).1) := by
          show _ = _
          rw [← HT.out.1]
          exact hiT_same (mk_inj HFM.out)
        rw [HTe.out]
        rintro e w2 ⟨rfl, hb⟩
        have CO := CO8.below hb
        have HB2 := HB8.out.trans (hb.mono HB8.out.size)
        clear hb HFM HT HB8 CO8 HTe
        generalize hiC (fun i => flatF (rbL f h (n + 1)) (k * 16 + i)) = C at *
        generalize hiO (fun i => flatF (rbL f h (n + 1)) (k * 16 + i)) = O at *
        have CO := CO.alloc (.cells (mk 2 C) 44)
        have HB : Hid (Below w.heap.size w (w2.alloc (.cells (mk 2 C) 44))) := HB2.alloc HB2.size _
        clear HB2
        generalize (hiF (pyB f h k) 16).1 = T at *
        by_cases hlt : (hinP f h k).1 < T
        · have HQ := Lib.hid (HY.out hlt)
          clear HY HNo
          generalize (hinP f h k).1 = X at *
          go_wp2_with fail
          go_roundg gk2
          case rel => exact ⟨k + 1, by omega, by go_num, by rw [HQ.out], by rw [HQ.out], CO, HB⟩
          case measure => omega
        · have HQ := Lib.hid (HNo.out (Int.not_lt.1 hlt))
          clear HY HNo
          have HX : Hid ((hinP f h k).1 = (hinP f h (k + 1)).1 ∧ (hinP f h k).2 = (hinP f h (k + 1)).2) := ⟨by rw [HQ.out], by rw [HQ.out]⟩
          go_wp2_with fail
          go_roundg gk2
          case rel => exact ⟨k + 1, by omega, by go_num, by rw [HX.out.1], by rw [HX.out.2], CO, HB⟩
          case measure => omega
  · obtain ⟨y1, y2, y3⟩ := hinR_no hR
    rw [y1, y2, y3]
    clear y1 y2 y3
    rw [rplO_no hR] at HCon
    have HCon := Lib.hid HCon
    clear hR
    go_enter Try.func37, Try.ntmps37
    go_wp2_with ((with_reducible show wpList _ _ _ (Oper.mk _ (Op.load 34 _) _ _ _ _ :: _) _ _); refine loadRp (K1) rfl rfl rfl ?_)
    refine HCon.out.mono ?_
    clear HCon
    rintro e w1 ⟨rfl, hb⟩
    have HB := Lib.hid (HB0.out.trans (hb.mono HB0.out.size))
    clear hb HB0 HV K1
    go_wp2_with fail
    go_ret3
    exact ⟨rfl, HB.out⟩
end Go.Proofs.Ytekdodlkimgbhaa
