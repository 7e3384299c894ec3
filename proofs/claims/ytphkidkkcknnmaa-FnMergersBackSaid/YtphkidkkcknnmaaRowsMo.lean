/-
  Several texts in one:
  The contracts of MostRowScore, in the reference and in the program, for every row: two functions that call themselves.
  The contract of MostBefore in the reference, for every board and every direction.
  The contract of MostBefore in the program, for every board and every direction.
-/
import Derived.Test.YtphkidkkcknnmaaRowsSym
import Derived.Test.YtphkidkkcknnmaaSpecWays
import Derived.Test.YtphkidkkcknnmaaImplWays
namespace Go.Proofs.Ytphkidkkcknnmaa
open Go.RowKit Plain
attribute [local go_sem] store_new

theorem l1Most_any (a b : Int) (w : World) :
    Calls Try.prog 68 #[.int .i64 a, .int .i64 b] w fun e w' => e = .returned (.int .i64 (max a b)) ∧ w = w' := by
  by_cases h : b < a
  · have HM : Hid (max a b = a) := Int.max_eq_left (by omega)
    go_enter Try.func68, Try.ntmps68
    go_wp2
    go_ret
    exact ⟨by rw [HM.out]; rfl, rfl⟩
  · have HM : Hid (max a b = b) := Int.max_eq_right (by omega)
    have h2 : decide (b < a) = false := by simpa using h
    clear h
    go_enter Try.func68, Try.ntmps68
    go_wp2
    go_ret
    exact ⟨by rw [HM.out]; rfl, rfl⟩
/-- What a line's slide scores, by whether it merges. -/
theorem sc_none {f : Nat → Int} (hV : VdRow f) (hm : (slid f 4).mg = 0) : (slid f 4).sc = 0 := by
  have := sc_mg hV 4 (Nat.le_refl _)
  have := (slid_ok hV 4 (Nat.le_refl _)).sc0
  omega
theorem sc_some {f : Nat → Int} (hV : VdRow f) (hm : (slid f 4).mg ≠ 0) : 0 < (slid f 4).sc := by
  have := sc_mg hV 4 (Nat.le_refl _)
  have := (slid_ok hV 4 (Nat.le_refl _)).mg0
  omega
theorem sc_bd {f : Nat → Int} (hV : VdRow f) : 0 ≤ (slid f 4).sc ∧ (slid f 4).sc ≤ 1048576 := by
  have h := slid_ok hV 4 (Nat.le_refl _)
  have := h.sc0
  have := h.sc1
  omega
theorem held4m_step {w W w6 : World} {b n c m : Nat} {f g : Nat → Int} {t u : TypeId} (h : Blk W b n f t ∧ Blk W c m g u ∧ Below w.heap.size w W) (hb : Below W.heap.size W w6) : Blk w6 b n f t ∧ Blk w6 c m g u ∧ Below w.heap.size w w6 :=
  ⟨h.1.below hb h.1.lt, h.2.1.below hb h.2.1.lt, h.2.2.trans (hb.mono h.2.2.size)⟩
end Go.Proofs.Ytphkidkkcknnmaa
namespace Go.Proofs.Ytphkidkkcknnmaa
open Go.RowKit Plain
attribute [local go_sem] store_new
set_option linter.unusedVariables false
set_option linter.unusedSimpArgs false

theorem many_cong {f g : Nat → Int} (h : ∀ i, i < 4 → f i = g i) : many f 4 = many g 4 := by
  simp only [many, h 0 (by omega), h 1 (by omega), h 2 (by omega), h 3 (by omega)]
theorem mxL_flat {f : Nat → Int} {d i j : Nat} (hj : j < (lnR f d i).length) : mxL (lnR f d i) (j + 1) = max (mxL (lnR f d i) j) (many (fun c => flatF (lnR f d i) (j * 4 + c)) 4) := by
  have hx : (lnR f d i)[j]? = some (lnR f d i)[j] := List.getElem?_eq_getElem hj
  rw [mxL_step hx, many_cong (f := fun c => flatF (lnR f d i) (j * 4 + c)) (g := fn (lnR f d i)[j]) fun c hc => flatF_at (lnR_all f d i) hx hc]

set_option maxHeartbeats 2000000 in
set_option maxRecDepth 20000 in
theorem specMostB_any (f : Nat → Int) (d : Int) (w : World) :
    Calls Try.prog 32 #[.agg (mk 16 f), .int .i64 d] w fun e w' => e = .returned (.tuple #[.int .i64 (mbR f d), .bool (mbO f d)]) ∧ Below w.heap.size w w' := by
  have zl := zeroL
  have K1 := Blk.new w 16 f 28
  have HB := Lib.hid ((Below.refl w.heap.size w).alloc (Nat.le_refl _) (.cells (mk 16 f) 28))
  by_cases hV : Vd f
  · by_cases hd : 0 ≤ d ∧ d ≤ 3
    · obtain ⟨k, rfl⟩ := Int.eq_ofNat_of_zero_le hd.1
      have HV := Lib.hid hV
      have HK : Hid (k < 4) := by show _ < _; omega
      have d0 : (0 : Int) ≤ (k : Int) := by omega
      have d3 : (k : Int) ≤ 3 := by omega
      have hcb : cbR f (k : Int) = cntB f k := cbR_nat hV HK.out
      by_cases h0 : cntB f k = 0
      · obtain ⟨y1, y2⟩ := mb_no (f := f) (d := (k : Int)) (fun h => h.2 (hcb.trans h0))
        rw [y1, y2]
        have H0 := Lib.hid h0
        clear y1 y2 hcb h0 hV hd
        go_enter Try.func32, Try.ntmps32
        go_wp2_with ((with_reducible show wpList _ _ _ (Oper.mk _ (Op.load 28 _) _ _ _ _ :: _) _ _); refine loadB (K1) rfl rfl rfl ?_)
        refine (l2Board_yes _ _ HV.out).mono ?_
        rintro e w1 ⟨rfl, hb⟩
        have K1 := K1.below hb K1.lt
        have HB : Hid (Below w.heap.size w w1) := HB.out.trans (hb.mono HB.out.size)
        clear hb
        go_wp2_with fail
        refine (l2Side_yes _ _ d0 d3).mono ?_
        rintro e w' ⟨rfl, rfl⟩
        go_wp2_with ((with_reducible show wpList _ _ _ (Oper.mk _ (Op.load 28 _) _ _ _ (some _) :: _) _ _); refine loadgB (K1) rfl rfl rfl ?_)
        refine (l6Count_any f k _ HV.out HK.out).mono ?_
        rw [H0.out]
        rintro e w2 ⟨rfl, hb⟩
        have HB : Hid (Below w.heap.size w w2) := HB.out.trans (hb.mono HB.out.size)
        clear hb
        go_wp2_with fail
        go_ret2
        exact ⟨rfl, HB.out⟩
      · obtain ⟨y1, y2⟩ := mb_yes (f := f) (d := (k : Int)) ⟨⟨hV, hd⟩, fun e => h0 (hcb.symm.trans e)⟩
        rw [y1, y2, Int.toNat_natCast]
        have q0 : (cntB f k == 0) = false := by simpa using h0
        clear y1 y2 hcb h0 hV hd
        go_enter Try.func32, Try.ntmps32
        go_wp2_with ((with_reducible show wpList _ _ _ (Oper.mk _ (Op.load 28 _) _ _ _ _ :: _) _ _); refine loadB (K1) rfl rfl rfl ?_)
        refine (l2Board_yes _ _ HV.out).mono ?_
        rintro e w1 ⟨rfl, hb⟩
        have K1 := K1.below hb K1.lt
        have HB : Hid (Below w.heap.size w w1) := HB.out.trans (hb.mono HB.out.size)
        clear hb
        go_wp2_with fail
        refine (l2Side_yes _ _ d0 d3).mono ?_
        rintro e w' ⟨rfl, rfl⟩
        go_wp2_with ((with_reducible show wpList _ _ _ (Oper.mk _ (Op.load 28 _) _ _ _ (some _) :: _) _ _); refine loadgB (K1) rfl rfl rfl ?_)
        refine (l6Count_any f k _ HV.out HK.out).mono ?_
        rintro e w2 ⟨rfl, hb⟩
        have K1 := K1.below hb K1.lt
        have HB : Hid (Below w.heap.size w w2) := HB.out.trans (hb.mono HB.out.size)
        clear hb
        go_wp2_with ((with_reducible show wpList _ _ _ (Oper.mk _ (Op.load 28 _) _ _ _ _ :: _) _ _); refine loadB (K1) rfl rfl rfl ?_)
        refine (l6Lists_any f k _ HV.out HK.out).mono ?_
        rintro e w3 ⟨v, rfl, hl, hb⟩
        have hz : w.heap.size ≤ w3.heap.size := Nat.le_trans HB.out.size hb.size
        have K5 := Oth.new w3 (vk 4 fun _ => .slice none 0 0) 69
        have HL : Hid (LinesB (w3.alloc (.cells (vk 4 fun _ => .slice none 0 0) 69)) w2.heap.size f k 4 v) := hl.alloc _
        have HB : Hid (Below w.heap.size w w3) := HB.out.trans (hb.mono HB.out.size)
        have HB : Hid (Below w.heap.size w (w3.alloc (.cells (vk 4 fun _ => .slice none 0 0) 69))) := HB.out.alloc HB.out.size _
        have H1 := Lib.hid (listsOne hl)
        have HLT : Hid (∀ i, i < 4 → ∃ g c, v i = .slice (some ⟨g, 0, none⟩) (lnR f k i).length c ∧ g < w3.heap.size) := fun i hi => by obtain ⟨g, c, h, _, h2⟩ := hl i hi; exact ⟨g, c, h, h2.1⟩
        clear hl hb K1 q0
        go_wp2_with ((with_reducible show wpList _ _ _ (Oper.mk _ (Op.store 69 _ _) _ _ _ _ :: _) _ _); refine wpl_store_vk rfl _ _ _ rfl rfl rfl K5 sizeLL H1.out ?_)
        have HL : Hid (LinesB ((w3.alloc (.cells (vk 4 fun _ => .slice none 0 0) 69)).setRow w3.heap.size (vk 4 v)) w2.heap.size f k 4 v) := fun i hi => by
          obtain ⟨g, c, h1, h2, h3⟩ := HL.out i hi
          obtain ⟨g', c', h1', h2'⟩ := HLT.out i hi
          rw [h1] at h1'; cases h1'
          exact ⟨g, c, h1, h2, h3.rowOther _ _ (by omega)⟩
        have HB := Lib.hid (below_setRow HB.out hz (vk 4 v))
        have K5 := K5.row (vk 4 v)
        clear HLT H1 hz
        generalize World.setRow _ w3.heap.size (vk 4 v) = w4 at *
        generalize w3.heap.size = b5 at *
        go_loopg [6, 8] 4 (fun gk s6 s8 wr => ∃ i : Nat, i + gk = 4 ∧ s8 = .int .i64 i ∧ s6 = .int .i64 (mbS f k i) ∧ Hid (LinesB wr w2.heap.size f k 4 v) ∧ Oth wr b5 (vk 4 v) 69 ∧ Hid (Below w.heap.size w wr))
        case atStart => exact ⟨0, by omega, rfl, rfl, HL, K5, HB⟩
        case round =>
          clear HL K5 HB
          obtain ⟨i, hig, rfl, rfl, HL, K5, HB⟩ := hrel
          cases gk with
          | zero =>
            have hi : ¬ ((i : Int) < 4) := by omega
            obtain rfl : i = 4 := by omega
            go_wp2_with fail
            go_ret2
            exact ⟨rfl, HB.out⟩
          | succ g =>
            have hi4 : (i : Int) < 4 := by omega
            have hi0 : (0 : Int) ≤ (i : Int) := by omega
            have hi9 : i < 4 := by omega
            obtain ⟨g0, c0, hv, _, hCX⟩ := HL.out i hi9
            have hn15 := lnR_15 f k i
            have HMX := Lib.hid (fun j (hj : j < (lnR f k i).length) => mxL_flat hj)
            have HVI := Lib.hid hv
            have hbd := mbS_bd f k i
            have hxd := mxL_bd (lnR f k i) (lnR f k i).length
            have HSS : Hid (mbS f k (i + 1) = mbS f k i + mxL (lnR f k i) (lnR f k i).length) := rfl
            clear hv
            have HXX : Hid (∀ j, 0 ≤ mxL (lnR f k i) j ∧ mxL (lnR f k i) j ≤ 4) := mxL_bd _
            generalize hR : lnR f k i = R at *
            generalize hN : R.length = n at *
            generalize hH : flatF R = h at *
            go_wp2_with fail
            go_loopg [9, 10] n (fun gj s9 s10 wx => ∃ j : Nat, j + gj = n ∧ s10 = .int .i64 j ∧ s9 = .int .i64 (mxL R j) ∧ CAt wx g0 (n * 4) h ∧ Hid (LinesB wx w2.heap.size f k 4 v) ∧ Oth wx b5 (vk 4 v) 69 ∧ Hid (Below w.heap.size w wx))
            case atStart => exact ⟨0, by omega, rfl, rfl, hCX, HL, K5, HB⟩
            case round =>
              clear HL K5 HB hCX
              obtain ⟨j, hjg, rfl, rfl, hCX, HL, K5, HB⟩ := hrel
              have c5 := K5.get (i := i) hi9
              rw [HVI.out] at c5
              cases gk with
              | zero =>
                have hj : ¬ ((j : Int) < (n : Int)) := by omega
                obtain rfl : j = n := by omega
                have hw : IntKind.i64.wrap (mbS f k i + mxL R j) = mbS f k i + mxL R j := IntWalk.i64_in _ (by omega)
                go_wp2_with fail
                go_roundg g
                case rel => exact ⟨i + 1, by omega, by go_num, by rw [HSS.out], HL, K5, HB⟩
                case measure => omega
              | succ gj =>
                have hj : (j : Int) < (n : Int) := by omega
                have hj0 : (0 : Int) ≤ (j : Int) := by omega
                have HS := Lib.hid (HMX.out j (by omega))
                go_wp2_with ((with_reducible show wpList _ _ _ (Oper.mk _ (Op.load 22 _) _ _ _ _ :: _) _ _); refine loadAR (hCX) (by omega) rfl rfl rfl ?_)
                refine (l4Many_any _ _).mono ?_
                rintro e w5 ⟨rfl, hb⟩
                have hCX := hCX.below hb
                have HL : Hid (LinesB w5 w2.heap.size f k 4 v) := HL.out.below hb
                have K5 := K5.below hb K5.lt
                have HB : Hid (Below w.heap.size w w5) := HB.out.trans (hb.mono HB.out.size)
                clear hb
                go_wp2_with fail
                refine (l1Most_any _ _ _).mono ?_
                rintro e w6 ⟨rfl, rfl⟩
                rw [← HS.out]
                go_wp2_with fail
                go_roundg gj
                case rel => exact ⟨j + 1, by omega, by go_num, rfl, hCX, HL, K5, HB⟩
                case measure => omega
    · obtain ⟨y1, y2⟩ := mb_no (f := f) (d := d) (fun h => hd h.1.2)
      rw [y1, y2]
      have HV := Lib.hid hV
      have HD := Lib.hid (show d < 0 ∨ 3 < d by omega)
      clear hV hd y1 y2
      go_enter Try.func32, Try.ntmps32
      go_wp2_with ((with_reducible show wpList _ _ _ (Oper.mk _ (Op.load 28 _) _ _ _ _ :: _) _ _); refine loadB (K1) rfl rfl rfl ?_)
      refine (l2Board_yes _ _ HV.out).mono ?_
      rintro e w1 ⟨rfl, hb⟩
      have HB : Hid (Below w.heap.size w w1) := HB.out.trans (hb.mono HB.out.size)
      clear hb
      go_wp2_with fail
      refine (l2Side_no _ _ HD.out).mono ?_
      rintro e w' ⟨rfl, rfl⟩
      go_wp2_with fail
      go_ret2
      exact ⟨rfl, HB.out⟩
  · obtain ⟨y1, y2⟩ := mb_no (f := f) (d := d) (fun h => hV h.1.1)
    rw [y1, y2]
    clear y1 y2
    go_enter Try.func32, Try.ntmps32
    go_wp2_with ((with_reducible show wpList _ _ _ (Oper.mk _ (Op.load 28 _) _ _ _ _ :: _) _ _); refine loadB (K1) rfl rfl rfl ?_)
    refine (l2Board_no _ _ hV).mono ?_
    rintro e w1 ⟨rfl, hb⟩
    have HB : Hid (Below w.heap.size w w1) := HB.out.trans (hb.mono HB.out.size)
    clear hb
    go_wp2_with fail
    go_ret2
    exact ⟨rfl, HB.out⟩
end Go.Proofs.Ytphkidkkcknnmaa
namespace Go.Proofs.Ytphkidkkcknnmaa
open Go.RowKit Plain
attribute [local go_sem] store_new
set_option linter.unusedVariables false
set_option linter.unusedSimpArgs false

set_option maxHeartbeats 2000000 in
set_option maxRecDepth 20000 in
theorem mostTiles_any (f : Nat → Int) (d i g0 c0 : Nat) (w : World) (hV : Vd f) (hi : i < 4) (hc : CAt w g0 ((lnR f d i).length * 4) (flatF (lnR f d i))) :
    Calls Try.prog 70 #[.slice (some ⟨g0, 0, none⟩) (lnR f d i).length c0] w fun e w' => e = .returned (.int .i64 (mxL (lnR f d i) (lnR f d i).length)) ∧ Below w.heap.size w w' := by
  have z4 := zero4
  have hn15 := lnR_15 f d i
  have HMX := Lib.hid (fun j (hj : j < (lnR f d i).length) => mxL_flat hj)
  have HXX : Hid (∀ j, 0 ≤ mxL (lnR f d i) j ∧ mxL (lnR f d i) j ≤ 4) := mxL_bd _
  have HNN : Hid (∀ j c, j < (lnR f d i).length → c < 4 → 0 ≤ flatF (lnR f d i) (j * 4 + c)) := fun j c hj hc => by
    have hx : (lnR f d i)[j]? = some (lnR f d i)[j] := List.getElem?_eq_getElem hj
    rw [flatF_at (lnR_all f d i) hx hc]
    exact (((rbR_bef (lineF_vd hV d hi) _).1 (List.mem_of_getElem? hx)).2.1 c hc).1
  have HB := Lib.hid (Below.refl w.heap.size w)
  generalize lnR f d i = R at *
  generalize hN : R.length = n at *
  generalize hH : flatF R = h at *
  go_enter Try.func70, Try.ntmps70
  go_wp2_with fail
  go_loopg [3, 11] n (fun gj s3 s11 wx => ∃ j : Nat, j + gj = n ∧ s11 = .int .i64 j ∧ s3 = .int .i64 (mxL R j) ∧ CAt wx g0 (n * 4) h ∧ Hid (Below w.heap.size w wx))
  case atStart => exact ⟨0, by omega, rfl, rfl, hc, HB⟩
  case round =>
    clear hc HB
    obtain ⟨j, hjg, rfl, rfl, hCX, HB⟩ := hrel
    cases gk with
    | zero =>
      have hj : ¬ ((j : Int) < (n : Int)) := by omega
      obtain rfl : j = n := by omega
      go_wp2_with fail
      go_ret
      exact ⟨rfl, HB.out⟩
    | succ gj =>
      have hj : (j : Int) < (n : Int) := by omega
      have hj0 : (0 : Int) ≤ (j : Int) := by omega
      have HS := Lib.hid (HMX.out j (by omega))
      have HRN : Hid (∀ c, c < 4 → 0 ≤ h (j * 4 + c)) := fun c hc => HNN.out j c (by omega) hc
      have K5 := Blk.new wr 4 (fun c => h (j * 4 + c)) 22
      have hCX2 := hCX.alloc (.cells (mk 4 fun c => h (j * 4 + c)) 22)
      have HB : Hid (Below w.heap.size w (wr.alloc (.cells (mk 4 fun c => h (j * 4 + c)) 22))) := HB.out.alloc HB.out.size _
      have hx0 := HXX.out j
      generalize hF : (fun c => h (j * 4 + c)) = F at *
      have HFE : Hid (∀ c, c < 4 → 0 ≤ F c) := fun c hc => by rw [← hF]; exact HRN.out c hc
      have hla : ∀ {ops : Array Oper} {rest : List Oper} {o : Oper} {a : Act} {W : World} {Q : Exit → Act → World → Prop} {x : Operand}, CAt W g0 (n * 4) h → o.guard = none → o.op = .load 22 x → a.eval x = .pointer (some ⟨g0, j * 4, none⟩) →
          wpList Try.prog ops Q rest (a.put o.dst (.agg (mk 4 F))) W → wpList Try.prog ops Q (o :: rest) a W := fun hg hgd ho hx hh => loadAR hg (by omega) hgd ho hx (by rw [hF]; exact hh)
      go_wp2_with (first | ((with_reducible show wpList _ _ _ (Oper.mk _ (Op.load 22 _) _ _ _ _ :: _) _ _); refine hla hCX rfl rfl rfl ?_) | ((with_reducible show wpList _ _ _ (Oper.mk _ (Op.load 22 _) _ _ _ _ :: _) _ _); refine loadR (K5) rfl rfl rfl ?_))
      clear hla hCX
      have iR := fun c (hc : c < 4) W => idxR F c hc W
      generalize wr.alloc (.cells (mk 4 F) 22) = w3 at *
      go_loopg [6, 16] 4 (fun gc s6 s16 wy => ∃ c : Nat, c + gc = 4 ∧ s16 = .int .i64 c ∧ s6 = .int .i64 (many F c) ∧ w3 = wy)
      case atStart => exact ⟨0, by omega, rfl, rfl, rfl⟩
      case round =>
        obtain ⟨c, hcg, rfl, rfl, rfl⟩ := hrel
        cases gk with
        | zero =>
          have hc : ¬ ((c : Int) < 4) := by omega
          obtain rfl : c = 4 := by omega
          generalize many F 4 = m at *
          generalize hq : mxL R j = q at *
          have HQ := Lib.hid hq
          clear hq
          go_wp2_with fail
          go_roundg gj
          case rel => exact ⟨j + 1, by omega, by go_num, by rw [HS.out], hCX2, HB⟩
          case measure => omega
        | succ gc =>
          have hc : (c : Int) < 4 := by omega
          have hc0 : (0 : Int) ≤ (c : Int) := by omega
          have iC := fun W => iR c (by omega) W
          have hm := many_bd F c
          have hnn := HFE.out c (by omega)
          by_cases h0 : F c = 0
          · have HS2 : Hid (many F (c + 1) = many F c) := by show _ = _; rw [many, if_neg (by omega)]
            rw [h0] at iC
            clear h0 hnn
            go_wp2_with fail
            go_roundg gc
            case rel => exact ⟨c + 1, by omega, by go_num, by rw [HS2.out], rfl⟩
            case measure => omega
          · have HS2 : Hid (many F (c + 1) = many F c + 1) := by show _ = _; rw [many, if_pos (by omega)]
            have q0 : (F c != 0) = true := by simpa using h0
            have hw : IntKind.i64.wrap (many F c + 1) = many F c + 1 := IntWalk.i64_in _ (by omega)
            generalize F c = x at *
            clear h0 hnn
            go_wp2_with fail
            go_roundg gc
            case rel => exact ⟨c + 1, by omega, by go_num, by rw [HS2.out], rfl⟩
            case measure => omega

set_option maxHeartbeats 2000000 in
set_option maxRecDepth 20000 in
theorem implMostB_any (f : Nat → Int) (d : Int) (w : World) :
    Calls Try.prog 33 #[.agg (mk 16 f), .int .i64 d] w fun e w' => e = .returned (.tuple #[.int .i64 (mbR f d), .bool (mbO f d)]) ∧ Below w.heap.size w w' := by
  have K1 := Blk.new w 16 f 28
  have HB := Lib.hid ((Below.refl w.heap.size w).alloc (Nat.le_refl _) (.cells (mk 16 f) 28))
  have HC := Lib.hid (fun W => implCountB_any f d W)
  by_cases hS : SlideOk f d
  · by_cases h0 : cbR f d = 0
    · obtain ⟨y1, y2⟩ := mb_no (f := f) (d := d) (fun h => h.2 h0)
      rw [y1, y2]
      rw [h0, (slide_yes hS).1] at HC
      clear y1 y2 h0 hS
      go_enter Try.func33, Try.ntmps33
      go_wp2_with ((with_reducible show wpList _ _ _ (Oper.mk _ (Op.load 28 _) _ _ _ _ :: _) _ _); refine loadB (K1) rfl rfl rfl ?_)
      refine (HC.out _).mono ?_
      rintro e w1 ⟨rfl, hb⟩
      have HB : Hid (Below w.heap.size w w1) := HB.out.trans (hb.mono HB.out.size)
      clear hb
      go_wp2_with fail
      go_ret2
      exact ⟨rfl, HB.out⟩
    · obtain ⟨y1, y2⟩ := mb_yes (f := f) (d := d) ⟨hS, h0⟩
      rw [y1, y2]
      rw [(slide_yes hS).1] at HC
      obtain ⟨hV, hd⟩ := hS
      obtain ⟨k, rfl⟩ := Int.eq_ofNat_of_zero_le hd.1
      have HV := Lib.hid hV
      have HK : Hid (k < 4) := by show _ < _; omega
      rw [Int.toNat_natCast]
      have q0 : (cbR f (k : Int) == 0) = false := by simpa using h0
      clear y1 y2 h0 hV hd
      generalize cbR f (k : Int) = cc at *
      go_enter Try.func33, Try.ntmps33
      go_wp2_with ((with_reducible show wpList _ _ _ (Oper.mk _ (Op.load 28 _) _ _ _ _ :: _) _ _); refine loadB (K1) rfl rfl rfl ?_)
      refine (HC.out _).mono ?_
      rintro e w1 ⟨rfl, hb⟩
      have K1 := K1.below hb K1.lt
      have HB : Hid (Below w.heap.size w w1) := HB.out.trans (hb.mono HB.out.size)
      clear hb
      go_wp2_with ((with_reducible show wpList _ _ _ (Oper.mk _ (Op.load 28 _) _ _ _ _ :: _) _ _); refine loadB (K1) rfl rfl rfl ?_)
      refine (linesBefore_any f k _ HV.out HK.out).mono ?_
      rintro e w2 ⟨v, rfl, hl, hb⟩
      have HL := Lib.hid hl
      have HB : Hid (Below w.heap.size w w2) := HB.out.trans (hb.mono HB.out.size)
      clear hl hb K1
      go_wp2_with fail
      go_loopg [8, 26] 4 (fun gk s8 s26 wr => ∃ i : Nat, i + gk = 4 ∧ s26 = .int .i64 i ∧ s8 = .int .i64 (mbS f k i) ∧ Hid (LinesB wr w1.heap.size f k 4 v) ∧ Hid (Below w.heap.size w wr))
      case atStart => exact ⟨0, by omega, rfl, rfl, HL, HB⟩
      case round =>
        clear HL HB
        obtain ⟨i, hig, rfl, rfl, HL, HB⟩ := hrel
        cases gk with
        | zero =>
          have hi : ¬ ((i : Int) < 4) := by omega
          obtain rfl : i = 4 := by omega
          go_wp2_with fail
          go_ret2
          exact ⟨rfl, HB.out⟩
        | succ g =>
          have hi4 : (i : Int) < 4 := by omega
          have hi0 : (0 : Int) ≤ (i : Int) := by omega
          have hi9 : i < 4 := by omega
          obtain ⟨gl, cl0, hv, _, hcx⟩ := HL.out i hi9
          have iL := fun W => idxLists v i hi9 W
          rw [hv] at iL
          have HCX := Lib.hid hcx
          clear hv hcx
          have hbd := mbS_bd f k i
          have hxd := mxL_bd (lnR f k i) (lnR f k i).length
          have HSS : Hid (mbS f k (i + 1) = mbS f k i + mxL (lnR f k i) (lnR f k i).length) := rfl
          go_wp2_with fail
          refine (mostTiles_any f k i gl cl0 _ HV.out hi9 HCX.out).mono ?_
          rintro e w3 ⟨rfl, hb⟩
          have HL : Hid (LinesB w3 w1.heap.size f k 4 v) := HL.out.below hb
          have HB : Hid (Below w.heap.size w w3) := HB.out.trans (hb.mono HB.out.size)
          clear hb iL
          have hw : IntKind.i64.wrap (mbS f k i + mxL (lnR f k i) (lnR f k i).length) = mbS f k i + mxL (lnR f k i) (lnR f k i).length := IntWalk.i64_in _ (by omega)
          go_wp2_with fail
          go_roundg g
          case rel => exact ⟨i + 1, by omega, by go_num, by rw [HSS.out], HL, HB⟩
          case measure => omega
  · obtain ⟨y1, y2⟩ := mb_no (f := f) (d := d) (fun h => hS h.1)
    rw [y1, y2]
    rw [cbR_no hS, (slide_no hS).1] at HC
    clear y1 y2 hS
    go_enter Try.func33, Try.ntmps33
    go_wp2_with ((with_reducible show wpList _ _ _ (Oper.mk _ (Op.load 28 _) _ _ _ _ :: _) _ _); refine loadB (K1) rfl rfl rfl ?_)
    refine (HC.out _).mono ?_
    rintro e w1 ⟨rfl, hb⟩
    have HB : Hid (Below w.heap.size w w1) := HB.out.trans (hb.mono HB.out.size)
    clear hb
    go_wp2_with fail
    go_ret2
    exact ⟨rfl, HB.out⟩
end Go.Proofs.Ytphkidkkcknnmaa
