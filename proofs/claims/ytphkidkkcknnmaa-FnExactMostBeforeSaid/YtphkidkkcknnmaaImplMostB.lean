/-
  The contract of MostBefore in the program, for every board and every direction.
-/
import Derived.Test.YtphkidkkcknnmaaSpecMostB
import Derived.Test.YtphkidkkcknnmaaImplWays
namespace Go.Proofs.Ytphkidkkcknnmaa
open Go.RowKit Plain
attribute [local go_sem] store_new
set_option linter.unusedVariables false
set_option linter.unusedSimpArgs false

set_option maxHeartbeats 2000000 in
set_option maxRecDepth 20000 in
theorem mostTiles_any (f : Nat → Int) (d i g0 c0 : Nat) (w : World) (hV : Vd f) (hi : i < 4) (hc : CAt w g0 ((lnR f d i).length * 4) (flatF (lnR f d i))) :
    Calls Try.prog 70 #[.slice (some ⟨g0, 0, none⟩) (lnR f d i).length c0] w fun e w' => e = .returned (.int .i64 (mxL (lnR f d i) (lnR f d i).length)) ∧ Below w.heap.size w w' := by
  have z4 := zero4
  have hn15 := lnR_15 f d i
  have HMX := Lib.hid (fun j (hj : j < (lnR f d i).length) => mxL_flat hj)
  have HXX : Hid (∀ j, 0 ≤ mxL (lnR f d i) j ∧ mxL (lnR f d i) j ≤ 4) := mxL_bd _
  have HNN : Hid (∀ j c, j < (lnR f d i).length → c < 4 → 0 ≤ flatF (lnR f d i) (j * 4 + c)) := fun j c hj hc => by
    have hx : (lnR f d i)[j]? = some (lnR f d i)[j] := List.getElem?_eq_getElem hj
    rw [flatF_at (lnR_all f d i) hx hc]
    exact (((rbR_bef (lineF_vd hV d hi) _).1 (List.mem_of_getElem? hx)).2.1 c hc).1
  have HB := Lib.hid (Below.refl w.heap.size w)
  generalize lnR f d i = R at *
  generalize hN : R.length = n at *
  generalize hH : flatF R = h at *
  go_enter Try.func70, Try.ntmps70
  go_wp2_with fail
  go_loopg [3, 11] n (fun gj s3 s11 wx => ∃ j : Nat, j + gj = n ∧ s11 = .int .i64 j ∧ s3 = .int .i64 (mxL R j) ∧ CAt wx g0 (n * 4) h ∧ Hid (Below w.heap.size w wx))
  case atStart => exact ⟨0, by omega, rfl, rfl, hc, HB⟩
  case round =>
    clear hc HB
    obtain ⟨j, hjg, rfl, rfl, hCX, HB⟩ := hrel
    cases gk with
    | zero =>
      have hj : ¬ ((j : Int) < (n : Int)) := by omega
      obtain rfl : j = n := by omega
      go_wp2_with fail
      go_ret
      exact ⟨rfl, HB.out⟩
    | succ gj =>
      have hj : (j : Int) < (n : Int) := by omega
      have hj0 : (0 : Int) ≤ (j : Int) := by omega
      have HS := Lib.hid (HMX.out j (by omega))
      have HRN : Hid (∀ c, c < 4 → 0 ≤ h (j * 4 + c)) := fun c hc => HNN.out j c (by omega) hc
      have K5 := Blk.new wr 4 (fun c => h (j * 4 + c)) 22
      have hCX2 := hCX.alloc (.cells (mk 4 fun c => h (j * 4 + c)) 22)
      have HB : Hid (Below w.heap.size w (wr.alloc (.cells (mk 4 fun c => h (j * 4 + c)) 22))) := HB.out.alloc HB.out.size _
      have hx0 := HXX.out j
      generalize hF : (fun c => h (j * 4 + c)) = F at *
      have HFE : Hid (∀ c, c < 4 → 0 ≤ F c) := fun c hc => by rw [← hF]; exact HRN.out c hc
      have hla : ∀ {ops : Array Oper} {rest : List Oper} {o : Oper} {a : Act} {W : World} {Q : Exit → Act → World → Prop} {x : Operand}, CAt W g0 (n * 4) h → o.guard = none → o.op = .load 22 x → a.eval x = .pointer (some ⟨g0, j * 4, none⟩) →
          wpList Try.prog ops Q rest (a.put o.dst (.agg (mk 4 F))) W → wpList Try.prog ops Q (o :: rest) a W := fun hg hgd ho hx hh => loadAR hg (by omega) hgd ho hx (by rw [hF]; exact hh)
      go_wp2_with (first | ((with_reducible show wpList _ _ _ (Oper.mk _ (Op.load 22 _) _ _ _ _ :: _) _ _); refine hla hCX rfl rfl rfl ?_) | ((with_reducible show wpList _ _ _ (Oper.mk _ (Op.load 22 _) _ _ _ _ :: _) _ _); refine loadR (K5) rfl rfl rfl ?_))
      clear hla hCX
      have iR := fun c (hc : c < 4) W => idxR F c hc W
      generalize wr.alloc (.cells (mk 4 F) 22) = w3 at *
      go_loopg [6, 16] 4 (fun gc s6 s16 wy => ∃ c : Nat, c + gc = 4 ∧ s16 = .int .i64 c ∧ s6 = .int .i64 (many F c) ∧ w3 = wy)
      case atStart => exact ⟨0, by omega, rfl, rfl, rfl⟩
      case round =>
        obtain ⟨c, hcg, rfl, rfl, rfl⟩ := hrel
        cases gk with
        | zero =>
          have hc : ¬ ((c : Int) < 4) := by omega
          obtain rfl : c = 4 := by omega
          generalize many F 4 = m at *
          generalize hq : mxL R j = q at *
          have HQ := Lib.hid hq
          clear hq
          go_wp2_with fail
          go_roundg gj
          case rel => exact ⟨j + 1, by omega, by go_num, by rw [HS.out], hCX2, HB⟩
          case measure => omega
        | succ gc =>
          have hc : (c : Int) < 4 := by omega
          have hc0 : (0 : Int) ≤ (c : Int) := by omega
          have iC := fun W => iR c (by omega) W
          have hm := many_bd F c
          have hnn := HFE.out c (by omega)
          by_cases h0 : F c = 0
          · have HS2 : Hid (many F (c + 1) = many F c) := by show _ = _; rw [many, if_neg (by omega)]
            rw [h0] at iC
            clear h0 hnn
            go_wp2_with fail
            go_roundg gc
            case rel => exact ⟨c + 1, by omega, by go_num, by rw [HS2.out], rfl⟩
            case measure => omega
          · have HS2 : Hid (many F (c + 1) = many F c + 1) := by show _ = _; rw [many, if_pos (by omega)]
            have q0 : (F c != 0) = true := by simpa using h0
            have hw : IntKind.i64.wrap (many F c + 1) = many F c + 1 := IntWalk.i64_in _ (by omega)
            generalize F c = x at *
            clear h0 hnn
            go_wp2_with fail
            go_roundg gc
            case rel => exact ⟨c + 1, by omega, by go_num, by rw [HS2.out], rfl⟩
            case measure => omega

set_option maxHeartbeats 2000000 in
set_option maxRecDepth 20000 in
theorem implMostB_any (f : Nat → Int) (d : Int) (w : World) :
    Calls Try.prog 33 #[.agg (mk 16 f), .int .i64 d] w fun e w' => e = .returned (.tuple #[.int .i64 (mbR f d), .bool (mbO f d)]) ∧ Below w.heap.size w w' := by
  have K1 := Blk.new w 16 f 28
  have HB := Lib.hid ((Below.refl w.heap.size w).alloc (Nat.le_refl _) (.cells (mk 16 f) 28))
  have HC := Lib.hid (fun W => implCountB_any f d W)
  by_cases hS : SlideOk f d
  · by_cases h0 : cbR f d = 0
    · obtain ⟨y1, y2⟩ := mb_no (f := f) (d := d) (fun h => h.2 h0)
      rw [y1, y2]
      rw [h0, (slide_yes hS).1] at HC
      clear y1 y2 h0 hS
      go_enter Try.func33, Try.ntmps33
      go_wp2_with ((with_reducible show wpList _ _ _ (Oper.mk _ (Op.load 28 _) _ _ _ _ :: _) _ _); refine loadB (K1) rfl rfl rfl ?_)
      refine (HC.out _).mono ?_
      rintro e w1 ⟨rfl, hb⟩
      have HB : Hid (Below w.heap.size w w1) := HB.out.trans (hb.mono HB.out.size)
      clear hb
      go_wp2_with fail
      go_ret2
      exact ⟨rfl, HB.out⟩
    · obtain ⟨y1, y2⟩ := mb_yes (f := f) (d := d) ⟨hS, h0⟩
      rw [y1, y2]
      rw [(slide_yes hS).1] at HC
      obtain ⟨hV, hd⟩ := hS
      obtain ⟨k, rfl⟩ := Int.eq_ofNat_of_zero_le hd.1
      have HV := Lib.hid hV
      have HK : Hid (k < 4) := by show _ < _; omega
      rw [Int.toNat_natCast]
      have q0 : (cbR f (k : Int) == 0) = false := by simpa using h0
      clear y1 y2 h0 hV hd
      generalize cbR f (k : Int) = cc at *
      go_enter Try.func33, Try.ntmps33
      go_wp2_with ((with_reducible show wpList _ _ _ (Oper.mk _ (Op.load 28 _) _ _ _ _ :: _) _ _); refine loadB (K1) rfl rfl rfl ?_)
      refine (HC.out _).mono ?_
      rintro e w1 ⟨rfl, hb⟩
      have K1 := K1.below hb K1.lt
      have HB : Hid (Below w.heap.size w w1) := HB.out.trans (hb.mono HB.out.size)
      clear hb
      go_wp2_with ((with_reducible show wpList _ _ _ (Oper.mk _ (Op.load 28 _) _ _ _ _ :: _) _ _); refine loadB (K1) rfl rfl rfl ?_)
      refine (linesBefore_any f k _ HV.out HK.out).mono ?_
      rintro e w2 ⟨v, rfl, hl, hb⟩
      have HL := Lib.hid hl
      have HB : Hid (Below w.heap.size w w2) := HB.out.trans (hb.mono HB.out.size)
      clear hl hb K1
      go_wp2_with fail
      go_loopg [8, 26] 4 (fun gk s8 s26 wr => ∃ i : Nat, i + gk = 4 ∧ s26 = .int .i64 i ∧ s8 = .int .i64 (mbS f k i) ∧ Hid (LinesB wr w1.heap.size f k 4 v) ∧ Hid (Below w.heap.size w wr))
      case atStart => exact ⟨0, by omega, rfl, rfl, HL, HB⟩
      case round =>
        clear HL HB
        obtain ⟨i, hig, rfl, rfl, HL, HB⟩ := hrel
        cases gk with
        | zero =>
          have hi : ¬ ((i : Int) < 4) := by omega
          obtain rfl : i = 4 := by omega
          go_wp2_with fail
          go_ret2
          exact ⟨rfl, HB.out⟩
        | succ g =>
          have hi4 : (i : Int) < 4 := by omega
          have hi0 : (0 : Int) ≤ (i : Int) := by omega
          have hi9 : i < 4 := by omega
          obtain ⟨gl, cl0, hv, _, hcx⟩ := HL.out i hi9
          have iL := fun W => idxLists v i hi9 W
          rw [hv] at iL
          have HCX := Lib.hid hcx
          clear hv hcx
          have hbd := mbS_bd f k i
          have hxd := mxL_bd (lnR f k i) (lnR f k i).length
          have HSS : Hid (mbS f k (i + 1) = mbS f k i + mxL (lnR f k i) (lnR f k i).length) := rfl
          go_wp2_with fail
          refine (mostTiles_any f k i gl cl0 _ HV.out hi9 HCX.out).mono ?_
          rintro e w3 ⟨rfl, hb⟩
          have HL : Hid (LinesB w3 w1.heap.size f k 4 v) := HL.out.below hb
          have HB : Hid (Below w.heap.size w w3) := HB.out.trans (hb.mono HB.out.size)
          clear hb iL
          have hw : IntKind.i64.wrap (mbS f k i + mxL (lnR f k i) (lnR f k i).length) = mbS f k i + mxL (lnR f k i) (lnR f k i).length := IntWalk.i64_in _ (by omega)
          go_wp2_with fail
          go_roundg g
          case rel => exact ⟨i + 1, by omega, by go_num, by rw [HSS.out], HL, HB⟩
          case measure => omega
  · obtain ⟨y1, y2⟩ := mb_no (f := f) (d := d) (fun h => hS h.1)
    rw [y1, y2]
    rw [cbR_no hS, (slide_no hS).1] at HC
    clear y1 y2 hS
    go_enter Try.func33, Try.ntmps33
    go_wp2_with ((with_reducible show wpList _ _ _ (Oper.mk _ (Op.load 28 _) _ _ _ _ :: _) _ _); refine loadB (K1) rfl rfl rfl ?_)
    refine (HC.out _).mono ?_
    rintro e w1 ⟨rfl, hb⟩
    have HB : Hid (Below w.heap.size w w1) := HB.out.trans (hb.mono HB.out.size)
    clear hb
    go_wp2_with fail
    go_ret2
    exact ⟨rfl, HB.out⟩
end Go.Proofs.Ytphkidkkcknnmaa
