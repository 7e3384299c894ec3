/-
  The contract of MostBefore in the reference, for every board and every direction.
-/
import Derived.Test.YtphkidkkcknnmaaSpecWays
import Derived.Test.YtphkidkkcknnmaaRowsMost
namespace Go.Proofs.Ytphkidkkcknnmaa
open Go.RowKit Plain
attribute [local go_sem] store_new
set_option linter.unusedVariables false
set_option linter.unusedSimpArgs false

theorem many_cong {f g : Nat → Int} (h : ∀ i, i < 4 → f i = g i) : many f 4 = many g 4 := by
  simp only [many, h 0 (by omega), h 1 (by omega), h 2 (by omega), h 3 (by omega)]
theorem mxL_flat {f : Nat → Int} {d i j : Nat} (hj : j < (lnR f d i).length) : mxL (lnR f d i) (j + 1) = max (mxL (lnR f d i) j) (many (fun c => flatF (lnR f d i) (j * 4 + c)) 4) := by
  have hx : (lnR f d i)[j]? = some (lnR f d i)[j] := List.getElem?_eq_getElem hj
  rw [mxL_step hx, many_cong (f := fun c => flatF (lnR f d i) (j * 4 + c)) (g := fn (lnR f d i)[j]) fun c hc => flatF_at (lnR_all f d i) hx hc]

set_option maxHeartbeats 2000000 in
set_option maxRecDepth 20000 in
theorem specMostB_any (f : Nat → Int) (d : Int) (w : World) :
    Calls Try.prog 32 #[.agg (mk 16 f), .int .i64 d] w fun e w' => e = .returned (.tuple #[.int .i64 (mbR f d), .bool (mbO f d)]) ∧ Below w.heap.size w w' := by
  have zl := zeroL
  have K1 := Blk.new w 16 f 28
  have HB := Lib.hid ((Below.refl w.heap.size w).alloc (Nat.le_refl _) (.cells (mk 16 f) 28))
  by_cases hV : Vd f
  · by_cases hd : 0 ≤ d ∧ d ≤ 3
    · obtain ⟨k, rfl⟩ := Int.eq_ofNat_of_zero_le hd.1
      have HV := Lib.hid hV
      have HK : Hid (k < 4) := by show _ < _; omega
      have d0 : (0 : Int) ≤ (k : Int) := by omega
      have d3 : (k : Int) ≤ 3 := by omega
      have hcb : cbR f (k : Int) = cntB f k := cbR_nat hV HK.out
      by_cases h0 : cntB f k = 0
      · obtain ⟨y1, y2⟩ := mb_no (f := f) (d := (k : Int)) (fun h => h.2 (hcb.trans h0))
        rw [y1, y2]
        have H0 := Lib.hid h0
        clear y1 y2 hcb h0 hV hd
        go_enter Try.func32, Try.ntmps32
        go_wp2_with ((with_reducible show wpList _ _ _ (Oper.mk _ (Op.load 28 _) _ _ _ _ :: _) _ _); refine loadB (K1) rfl rfl rfl ?_)
        refine (l2Board_yes _ _ HV.out).mono ?_
        rintro e w1 ⟨rfl, hb⟩
        have K1 := K1.below hb K1.lt
        have HB : Hid (Below w.heap.size w w1) := HB.out.trans (hb.mono HB.out.size)
        clear hb
        go_wp2_with fail
        refine (l2Side_yes _ _ d0 d3).mono ?_
        rintro e w' ⟨rfl, rfl⟩
        go_wp2_with ((with_reducible show wpList _ _ _ (Oper.mk _ (Op.load 28 _) _ _ _ (some _) :: _) _ _); refine loadgB (K1) rfl rfl rfl ?_)
        refine (l6Count_any f k _ HV.out HK.out).mono ?_
        rw [H0.out]
        rintro e w2 ⟨rfl, hb⟩
        have HB : Hid (Below w.heap.size w w2) := HB.out.trans (hb.mono HB.out.size)
        clear hb
        go_wp2_with fail
        go_ret2
        exact ⟨rfl, HB.out⟩
      · obtain ⟨y1, y2⟩ := mb_yes (f := f) (d := (k : Int)) ⟨⟨hV, hd⟩, fun e => h0 (hcb.symm.trans e)⟩
        rw [y1, y2, Int.toNat_natCast]
        have q0 : (cntB f k == 0) = false := by simpa using h0
        clear y1 y2 hcb h0 hV hd
        go_enter Try.func32, Try.ntmps32
        go_wp2_with ((with_reducible show wpList _ _ _ (Oper.mk _ (Op.load 28 _) _ _ _ _ :: _) _ _); refine loadB (K1) rfl rfl rfl ?_)
        refine (l2Board_yes _ _ HV.out).mono ?_
        rintro e w1 ⟨rfl, hb⟩
        have K1 := K1.below hb K1.lt
        have HB : Hid (Below w.heap.size w w1) := HB.out.trans (hb.mono HB.out.size)
        clear hb
        go_wp2_with fail
        refine (l2Side_yes _ _ d0 d3).mono ?_
        rintro e w' ⟨rfl, rfl⟩
        go_wp2_with ((with_reducible show wpList _ _ _ (Oper.mk _ (Op.load 28 _) _ _ _ (some _) :: _) _ _); refine loadgB (K1) rfl rfl rfl ?_)
        refine (l6Count_any f k _ HV.out HK.out).mono ?_
        rintro e w2 ⟨rfl, hb⟩
        have K1 := K1.below hb K1.lt
        have HB : Hid (Below w.heap.size w w2) := HB.out.trans (hb.mono HB.out.size)
        clear hb
        go_wp2_with ((with_reducible show wpList _ _ _ (Oper.mk _ (Op.load 28 _) _ _ _ _ :: _) _ _); refine loadB (K1) rfl rfl rfl ?_)
        refine (l6Lists_any f k _ HV.out HK.out).mono ?_
        rintro e w3 ⟨v, rfl, hl, hb⟩
        have hz : w.heap.size ≤ w3.heap.size := Nat.le_trans HB.out.size hb.size
        have K5 := Oth.new w3 (vk 4 fun _ => .slice none 0 0) 69
        have HL : Hid (LinesB (w3.alloc (.cells (vk 4 fun _ => .slice none 0 0) 69)) w2.heap.size f k 4 v) := hl.alloc _
        have HB : Hid (Below w.heap.size w w3) := HB.out.trans (hb.mono HB.out.size)
        have HB : Hid (Below w.heap.size w (w3.alloc (.cells (vk 4 fun _ => .slice none 0 0) 69))) := HB.out.alloc HB.out.size _
        have H1 := Lib.hid (listsOne hl)
        have HLT : Hid (∀ i, i < 4 → ∃ g c, v i = .slice (some ⟨g, 0, none⟩) (lnR f k i).length c ∧ g < w3.heap.size) := fun i hi => by obtain ⟨g, c, h, _, h2⟩ := hl i hi; exact ⟨g, c, h, h2.1⟩
        clear hl hb K1 q0
        go_wp2_with ((with_reducible show wpList _ _ _ (Oper.mk _ (Op.store 69 _ _) _ _ _ _ :: _) _ _); refine wpl_store_vk rfl _ _ _ rfl rfl rfl K5 sizeLL H1.out ?_)
        have HL : Hid (LinesB ((w3.alloc (.cells (vk 4 fun _ => .slice none 0 0) 69)).setRow w3.heap.size (vk 4 v)) w2.heap.size f k 4 v) := fun i hi => by
          obtain ⟨g, c, h1, h2, h3⟩ := HL.out i hi
          obtain ⟨g', c', h1', h2'⟩ := HLT.out i hi
          rw [h1] at h1'; cases h1'
          exact ⟨g, c, h1, h2, h3.rowOther _ _ (by omega)⟩
        have HB := Lib.hid (below_setRow HB.out hz (vk 4 v))
        have K5 := K5.row (vk 4 v)
        clear HLT H1 hz
        generalize World.setRow _ w3.heap.size (vk 4 v) = w4 at *
        generalize w3.heap.size = b5 at *
        go_loopg [6, 8] 4 (fun gk s6 s8 wr => ∃ i : Nat, i + gk = 4 ∧ s8 = .int .i64 i ∧ s6 = .int .i64 (mbS f k i) ∧ Hid (LinesB wr w2.heap.size f k 4 v) ∧ Oth wr b5 (vk 4 v) 69 ∧ Hid (Below w.heap.size w wr))
        case atStart => exact ⟨0, by omega, rfl, rfl, HL, K5, HB⟩
        case round =>
          clear HL K5 HB
          obtain ⟨i, hig, rfl, rfl, HL, K5, HB⟩ := hrel
          cases gk with
          | zero =>
            have hi : ¬ ((i : Int) < 4) := by omega
            obtain rfl : i = 4 := by omega
            go_wp2_with fail
            go_ret2
            exact ⟨rfl, HB.out⟩
          | succ g =>
            have hi4 : (i : Int) < 4 := by omega
            have hi0 : (0 : Int) ≤ (i : Int) := by omega
            have hi9 : i < 4 := by omega
            obtain ⟨g0, c0, hv, _, hCX⟩ := HL.out i hi9
            have hn15 := lnR_15 f k i
            have HMX := Lib.hid (fun j (hj : j < (lnR f k i).length) => mxL_flat hj)
            have HVI := Lib.hid hv
            have hbd := mbS_bd f k i
            have hxd := mxL_bd (lnR f k i) (lnR f k i).length
            have HSS : Hid (mbS f k (i + 1) = mbS f k i + mxL (lnR f k i) (lnR f k i).length) := rfl
            clear hv
            have HXX : Hid (∀ j, 0 ≤ mxL (lnR f k i) j ∧ mxL (lnR f k i) j ≤ 4) := mxL_bd _
            generalize hR : lnR f k i = R at *
            generalize hN : R.length = n at *
            generalize hH : flatF R = h at *
            go_wp2_with fail
            go_loopg [9, 10] n (fun gj s9 s10 wx => ∃ j : Nat, j + gj = n ∧ s10 = .int .i64 j ∧ s9 = .int .i64 (mxL R j) ∧ CAt wx g0 (n * 4) h ∧ Hid (LinesB wx w2.heap.size f k 4 v) ∧ Oth wx b5 (vk 4 v) 69 ∧ Hid (Below w.heap.size w wx))
            case atStart => exact ⟨0, by omega, rfl, rfl, hCX, HL, K5, HB⟩
            case round =>
              clear HL K5 HB hCX
              obtain ⟨j, hjg, rfl, rfl, hCX, HL, K5, HB⟩ := hrel
              have c5 := K5.get (i := i) hi9
              rw [HVI.out] at c5
              cases gk with
              | zero =>
                have hj : ¬ ((j : Int) < (n : Int)) := by omega
                obtain rfl : j = n := by omega
                have hw : IntKind.i64.wrap (mbS f k i + mxL R j) = mbS f k i + mxL R j := IntWalk.i64_in _ (by omega)
                go_wp2_with fail
                go_roundg g
                case rel => exact ⟨i + 1, by omega, by go_num, by rw [HSS.out], HL, K5, HB⟩
                case measure => omega
              | succ gj =>
                have hj : (j : Int) < (n : Int) := by omega
                have hj0 : (0 : Int) ≤ (j : Int) := by omega
                have HS := Lib.hid (HMX.out j (by omega))
                go_wp2_with ((with_reducible show wpList _ _ _ (Oper.mk _ (Op.load 22 _) _ _ _ _ :: _) _ _); refine loadAR (hCX) (by omega) rfl rfl rfl ?_)
                refine (l4Many_any _ _).mono ?_
                rintro e w5 ⟨rfl, hb⟩
                have hCX := hCX.below hb
                have HL : Hid (LinesB w5 w2.heap.size f k 4 v) := HL.out.below hb
                have K5 := K5.below hb K5.lt
                have HB : Hid (Below w.heap.size w w5) := HB.out.trans (hb.mono HB.out.size)
                clear hb
                go_wp2_with fail
                refine (l1Most_any _ _ _).mono ?_
                rintro e w6 ⟨rfl, rfl⟩
                rw [← HS.out]
                go_wp2_with fail
                go_roundg gj
                case rel => exact ⟨j + 1, by omega, by go_num, rfl, hCX, HL, K5, HB⟩
                case measure => omega
    · obtain ⟨y1, y2⟩ := mb_no (f := f) (d := d) (fun h => hd h.1.2)
      rw [y1, y2]
      have HV := Lib.hid hV
      have HD := Lib.hid (show d < 0 ∨ 3 < d by omega)
      clear hV hd y1 y2
      go_enter Try.func32, Try.ntmps32
      go_wp2_with ((with_reducible show wpList _ _ _ (Oper.mk _ (Op.load 28 _) _ _ _ _ :: _) _ _); refine loadB (K1) rfl rfl rfl ?_)
      refine (l2Board_yes _ _ HV.out).mono ?_
      rintro e w1 ⟨rfl, hb⟩
      have HB : Hid (Below w.heap.size w w1) := HB.out.trans (hb.mono HB.out.size)
      clear hb
      go_wp2_with fail
      refine (l2Side_no _ _ HD.out).mono ?_
      rintro e w' ⟨rfl, rfl⟩
      go_wp2_with fail
      go_ret2
      exact ⟨rfl, HB.out⟩
  · obtain ⟨y1, y2⟩ := mb_no (f := f) (d := d) (fun h => hV h.1.1)
    rw [y1, y2]
    clear y1 y2
    go_enter Try.func32, Try.ntmps32
    go_wp2_with ((with_reducible show wpList _ _ _ (Oper.mk _ (Op.load 28 _) _ _ _ _ :: _) _ _); refine loadB (K1) rfl rfl rfl ?_)
    refine (l2Board_no _ _ hV).mono ?_
    rintro e w1 ⟨rfl, hb⟩
    have HB : Hid (Below w.heap.size w w1) := HB.out.trans (hb.mono HB.out.size)
    clear hb
    go_wp2_with fail
    go_ret2
    exact ⟨rfl, HB.out⟩
end Go.Proofs.Ytphkidkkcknnmaa
