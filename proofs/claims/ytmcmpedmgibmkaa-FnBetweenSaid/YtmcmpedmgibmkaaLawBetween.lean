/-
  Proved: for every code, the law FnBetween returns true, and the code reads as it did. No condition.
-/
import Derived.Test.YtmcmpedmgibmkaaDrawBetw
import Derived.Test.YtmcmpedmgibmkaaBoundOf
import Derived.Test.YtmcmpedmgibmkaaLeftOf
import Derived.Test.YtmcmpedmgibmkaaPairs
import Derived.Test.YtmcmpedmgibmkaaImplSlideBoard
import Derived.Test.YtmcmpedmgibmkaaBaseA
import Derived.Test.YtmcmpedmgibmkaaClosed
import Derived.Deep.CutRange
namespace Go.Proofs.Ytmcmpedmgibmkaa.fnBetween
open Go.ChangeShapes Go.WideShapes Go.ChangeAt Go.RowKit Plain
attribute [local go_sem] store_new
set_option linter.unusedSimpArgs false
set_option linter.unusedVariables false
theorem isRow_kept {k : IntKind} {w w' : World} {a : Option Addr} {len cap : Nat} {z : List Int} (h : IsRow k w a len cap z) (hb : Below w.heap.size w w') : IsRow k w' a len cap z := by
  rcases h with h | ⟨x, h0, h1, h2, h3, h4, h5⟩
  · exact .inl h
  · refine .inr ⟨x, h0, h1, h2, h3, fun i hi => ?_, h5⟩
    have := h4 i hi
    exact (hb.cell (World.block_lt_of_cell? w _ this)).trans this
theorem pkd_facts {u : Nat → Int} (h : vdO u = true) :
    ∃ P : Int, (∀ W, Calls Try.prog 39 #[.agg (mk 16 u)] W fun e w' => e = .returned (.tuple #[.int .i64 P, .bool true]) ∧ Below W.heap.size W w') ∧ (ipR u = true → P = 0) ∧
    ∀ d : Nat, d < 4 → ∃ (X : Nat → Int) (s : Int), (∀ W, Calls Try.prog 40 #[.agg (mk 16 u), .int .i64 (d : Int)] W fun e w' => e = .returned (.tuple #[.agg (mk 16 X), .int .i64 s, .bool true]) ∧ Below W.heap.size W w') ∧ (ipR u = true → s = 0) := by
  have hV : Vd u := of_decide_eq_true h
  refine ⟨plines u 4, fun W => ?_, fun hi => pkd_pairs (ip_pkd hi).1 (ip_pkd hi).2, fun d hd => ⟨slideB u d, slideS u d 4, fun W => ?_, fun hi => pkd_score (ip_pkd hi).1 (ip_pkd hi).2 d 4 (Nat.le_refl _)⟩⟩
  · have := implPairs_any u W
    rw [pairsR_yes hV, vdO_yes hV] at this
    exact this
  · have := implSlide_any u (d : Int) W
    obtain ⟨y1, y2, y3, _⟩ := slide_yes (f := u) (d := (d : Int)) ⟨hV, by omega, by omega⟩
    rw [y1, y2, y3, Int.toNat_natCast] at this
    exact this
theorem score_facts {x y : Nat → Int} {t : Int} (h : sbO x y t = true) :
    ∃ R2 : Int, (∀ W, Calls Try.prog 27 #[.agg (mk 16 y), .agg (mk 16 x), .int .i64 0] W fun e w' => e = .returned (.tuple #[.int .i64 R2, .bool true]) ∧ Below W.heap.size W w') ∧ IntKind.i64.wrap (sbR x y t + R2) = -4 * t ∧ IntKind.i64.wrap (-4 * t) = -4 * t := by
  have hS : SbOk x y t := of_decide_eq_true h
  obtain ⟨h1, h2, h3, h4⟩ := hS
  have hS2 : SbOk y x 0 := ⟨h2, h1, by omega, by omega⟩
  have hS : SbOk x y t := ⟨h1, h2, h3, h4⟩
  refine ⟨sbR y x 0, fun W => ?_, ?_, IntWalk.i64_in _ (by omega)⟩
  · have := implScoreB_any y x 0 W
    rw [(sb_yes hS2).1] at this
    exact this
  · rw [(sb_yes hS2).2, (sb_yes hS).2, show potF y 16 - potF x 16 - 4 * t + (potF x 16 - potF y 16 - 4 * 0) = -4 * t by omega]
    exact IntWalk.i64_in _ (by omega)
theorem moves_facts {a b : Nat → Int} (h : mvO a b = true) :
    ∃ SA SB : Int, (∀ W, Calls Try.prog 41 #[.agg (mk 16 a)] W fun e w' => e = .returned (.tuple #[.int .i64 SA, .bool true]) ∧ Below W.heap.size W w') ∧
    (∀ W, Calls Try.prog 41 #[.agg (mk 16 b)] W fun e w' => e = .returned (.tuple #[.int .i64 SB, .bool true]) ∧ Below W.heap.size W w') ∧
    0 ≤ mvL a b ∧ mvL a b ≤ 2097152 ∧ mvL a b ≤ mvM a b ∧ mvM a b ≤ 2097152 ∧ 2 * mvM a b = SB - SA ∧ SB - SA ≤ 4 * mvL a b ∧ 4 * mvL a b < SB - SA + 4 := by
  have hM : MbOk a b := of_decide_eq_true h
  obtain ⟨h1, h2, h3⟩ := hM
  have hM : MbOk a b := ⟨h1, h2, h3⟩
  have b1 := sum_bd h1
  have b2 := sum_bd h2
  have p1 := sum_even h1
  have p2 := sum_even h2
  rw [(mv_yes hM).2.1, (mv_yes hM).2.2]
  refine ⟨sumF a 16, sumF b 16, fun W => ?_, fun W => ?_, by omega, by omega, by omega, by omega, by omega, by omega, by omega⟩
  · have := implSum_any a W
    rw [sumR_yes h1, vdO_yes h1] at this
    exact this
  · have := implSum_any b W
    rw [sumR_yes h2, vdO_yes h2] at this
    exact this
set_option maxHeartbeats 16000000 in
set_option maxRecDepth 100000 in
theorem walk (w : World) (_ : w.ShapedOpen Try.prog) (a0 : Option Addr) (len0 cap0 : Nat) (z0 : List Int) (hr : IsRow .u8 w a0 len0 cap0 z0) :
    Calls Try.prog 12 #[.slice a0 len0 cap0] w fun e w' => e = .returned (.bool true) ∧ Below w.heap.size w w' := by
  have z16 := zero16
  have HR := Lib.hid hr
  have HB : Hid (Below w.heap.size w w) := Below.refl w.heap.size w
  clear hr
  by_cases hl : len0 ≤ 65536
  · have dl : decide ((65536 : Int) < (len0 : Int)) = false := by simp; omega
    go_enter Try.func12, Try.ntmps12
    go_wp2_with fail
    refine (vBig_any _ _ _ _).mono ?_
    rintro e w' ⟨rfl, rfl⟩
    rw [dl]
    clear dl
    go_wp2_with fail
    refine (drawMoves_any a0 len0 cap0 _ hl HR.out.code).mono ?_
    rintro e w1 ⟨a, b, rfl, hb⟩
    replace HB : Hid (Below w.heap.size w w1) := hb
    clear hb
    have HMF := Lib.hid (@moves_facts a b)
    have iM := Lib.hid (fun W => implMovesB_any a b W)
    have sM := Lib.hid (fun W => specMovesB_any a b W)
    generalize mvL a b = L at *
    generalize mvM a b = M at *
    generalize mvO a b = O at *
    have hsz := HB.out.size
    have K3 := (Blk.new w1 16 (fun _ => 0) 28).alloc (.cells (mk 16 fun _ => 0) 28)
    have K4 := Blk.new (w1.alloc (.cells (mk 16 fun _ => 0) 28)) 16 (fun _ => 0) 28
    have hB1 : (w1.alloc (.cells (mk 16 fun _ => 0) 28)).heap.size = w1.heap.size + 1 := by simp
    rw [hB1] at K4
    have KB2 := K4.rowOther w1.heap.size (mk 16 a) (by omega)
    have KAf := (K3.row 16 a).rowOther (w1.heap.size + 1) (mk 16 b) (by omega)
    have KBf := KB2.row 16 b
    go_wp2_with (first | ((with_reducible show wpList _ _ _ (Oper.mk _ (Op.store 28 _ _) _ _ _ _ :: _) _ _); refine storeB (K3) rfl rfl rfl rfl ?_) | ((with_reducible show wpList _ _ _ (Oper.mk _ (Op.store 28 _ _) _ _ _ _ :: _) _ _); refine storeB (KB2) rfl rfl rfl rfl ?_) | ((with_reducible show wpList _ _ _ (Oper.mk _ (Op.load 28 _) _ _ _ _ :: _) _ _); refine loadB (KAf) rfl rfl rfl ?_) | ((with_reducible show wpList _ _ _ (Oper.mk _ (Op.load 28 _) _ _ _ _ :: _) _ _); refine loadB (KBf) rfl rfl rfl ?_))
    replace HB := HB.out.alloc hsz (.cells (mk 16 fun _ => 0) 28)
    replace HB : Hid (Below w.heap.size w ((((w1.alloc (.cells (mk 16 fun _ => 0) 28)).alloc (.cells (mk 16 fun _ => 0) 28)).setRow w1.heap.size (mk 16 a)).setRow (w1.heap.size + 1) (mk 16 b))) := below_setRow (below_setRow (HB.alloc HB.size (.cells (mk 16 fun _ => 0) 28)) hsz (mk 16 a)) (by omega) (mk 16 b)
    clear K3 K4 KB2 hB1 hsz
    have K3 := KAf
    have K4 := KBf
    clear KAf KBf
    generalize (((w1.alloc (.cells (mk 16 fun _ => 0) 28)).alloc (.cells (mk 16 fun _ => 0) 28)).setRow w1.heap.size (mk 16 a)).setRow (w1.heap.size + 1) (mk 16 b) = w2 at *
    generalize w1.heap.size = b3 at *
    refine (iM.out _).mono ?_
    rintro e w3 ⟨rfl, hb⟩
    replace K3 := K3.below hb K3.lt
    replace K4 := K4.below hb K4.lt
    replace HB : Hid (Below w.heap.size w w3) := HB.out.trans (hb.mono HB.out.size)
    clear hb
    go_wp2_with (first | ((with_reducible show wpList _ _ _ (Oper.mk _ (Op.load 28 _) _ _ _ _ :: _) _ _); refine loadB (K3) rfl rfl rfl ?_) | ((with_reducible show wpList _ _ _ (Oper.mk _ (Op.load 28 _) _ _ _ _ :: _) _ _); refine loadB (K4) rfl rfl rfl ?_))
    refine (sM.out _).mono ?_
    rintro e w4 ⟨rfl, hb⟩
    replace K3 := K3.below hb K3.lt
    replace K4 := K4.below hb K4.lt
    replace HB : Hid (Below w.heap.size w w4) := HB.out.trans (hb.mono HB.out.size)
    clear hb
    clear iM sM
    go_wp2_with fail
    refine (vCut1_any a0 len0 cap0 z0 _ hl (isRow_kept HR.out HB.out)).mono ?_
    rintro e w5 ⟨g1, m1, c1, rfl, hm1, hcr, hb⟩
    replace K3 := K3.below hb K3.lt
    replace K4 := K4.below hb K4.lt
    replace HB : Hid (Below w.heap.size w w5) := HB.out.trans (hb.mono HB.out.size)
    clear hb
    have HCR := Lib.hid hcr
    clear hcr
    go_wp2_with fail
    refine (drawScore_any (some ⟨g1, 0, none⟩) m1 c1 _ hm1 HCR.out).mono ?_
    rintro e w6 ⟨x, y, t, rfl, hb⟩
    replace K3 := K3.below hb K3.lt
    replace K4 := K4.below hb K4.lt
    replace HB : Hid (Below w.heap.size w w6) := HB.out.trans (hb.mono HB.out.size)
    clear hb
    clear HCR
    have HSF := Lib.hid (@score_facts x y t)
    have iS := Lib.hid (fun W => implScoreB_any x y t W)
    have sS := Lib.hid (fun W => specScoreB_any x y t W)
    generalize sbR x y t = R at *
    generalize sbO x y t = O2 at *
    have hsz := HB.out.size
    have K11 := (Blk.new w6 16 (fun _ => 0) 28).alloc (.cells (mk 16 fun _ => 0) 28)
    have K12 := Blk.new (w6.alloc (.cells (mk 16 fun _ => 0) 28)) 16 (fun _ => 0) 28
    have hB1 : (w6.alloc (.cells (mk 16 fun _ => 0) 28)).heap.size = w6.heap.size + 1 := by simp
    rw [hB1] at K12
    have KB2 := K12.rowOther w6.heap.size (mk 16 x) (by omega)
    have KAf := (K11.row 16 x).rowOther (w6.heap.size + 1) (mk 16 y) (by omega)
    have KBf := KB2.row 16 y
    replace K3 := (((K3.alloc (.cells (mk 16 fun _ => 0) 28)).alloc (.cells (mk 16 fun _ => 0) 28)).rowOther w6.heap.size (mk 16 x) (by have := K3.lt; omega)).rowOther (w6.heap.size + 1) (mk 16 y) (by have := K3.lt; omega)
    replace K4 := (((K4.alloc (.cells (mk 16 fun _ => 0) 28)).alloc (.cells (mk 16 fun _ => 0) 28)).rowOther w6.heap.size (mk 16 x) (by have := K4.lt; omega)).rowOther (w6.heap.size + 1) (mk 16 y) (by have := K4.lt; omega)
    go_wp2_with (first | ((with_reducible show wpList _ _ _ (Oper.mk _ (Op.store 28 _ _) _ _ _ _ :: _) _ _); refine storeB (K11) rfl rfl rfl rfl ?_) | ((with_reducible show wpList _ _ _ (Oper.mk _ (Op.store 28 _ _) _ _ _ _ :: _) _ _); refine storeB (KB2) rfl rfl rfl rfl ?_) | ((with_reducible show wpList _ _ _ (Oper.mk _ (Op.load 28 _) _ _ _ _ :: _) _ _); refine loadB (KAf) rfl rfl rfl ?_) | ((with_reducible show wpList _ _ _ (Oper.mk _ (Op.load 28 _) _ _ _ _ :: _) _ _); refine loadB (KBf) rfl rfl rfl ?_))
    replace HB := HB.out.alloc hsz (.cells (mk 16 fun _ => 0) 28)
    replace HB : Hid (Below w.heap.size w ((((w6.alloc (.cells (mk 16 fun _ => 0) 28)).alloc (.cells (mk 16 fun _ => 0) 28)).setRow w6.heap.size (mk 16 x)).setRow (w6.heap.size + 1) (mk 16 y))) := below_setRow (below_setRow (HB.alloc HB.size (.cells (mk 16 fun _ => 0) 28)) hsz (mk 16 x)) (by omega) (mk 16 y)
    clear K11 K12 KB2 hB1 hsz
    have K11 := KAf
    have K12 := KBf
    clear KAf KBf
    generalize (((w6.alloc (.cells (mk 16 fun _ => 0) 28)).alloc (.cells (mk 16 fun _ => 0) 28)).setRow w6.heap.size (mk 16 x)).setRow (w6.heap.size + 1) (mk 16 y) = w7 at *
    generalize w6.heap.size = b11 at *
    refine (iS.out _).mono ?_
    rintro e w8 ⟨rfl, hb⟩
    replace K3 := K3.below hb K3.lt
    replace K4 := K4.below hb K4.lt
    replace K11 := K11.below hb K11.lt
    replace K12 := K12.below hb K12.lt
    replace HB : Hid (Below w.heap.size w w8) := HB.out.trans (hb.mono HB.out.size)
    clear hb
    go_wp2_with (first | ((with_reducible show wpList _ _ _ (Oper.mk _ (Op.load 28 _) _ _ _ _ :: _) _ _); refine loadB (K11) rfl rfl rfl ?_) | ((with_reducible show wpList _ _ _ (Oper.mk _ (Op.load 28 _) _ _ _ _ :: _) _ _); refine loadB (K12) rfl rfl rfl ?_))
    refine (sS.out _).mono ?_
    rintro e w9 ⟨rfl, hb⟩
    replace K3 := K3.below hb K3.lt
    replace K4 := K4.below hb K4.lt
    replace K11 := K11.below hb K11.lt
    replace K12 := K12.below hb K12.lt
    replace HB : Hid (Below w.heap.size w w9) := HB.out.trans (hb.mono HB.out.size)
    clear hb
    clear iS sS
    go_wp2_with fail
    refine (vCut2_any a0 len0 cap0 z0 _ hl (isRow_kept HR.out HB.out)).mono ?_
    rintro e w10 ⟨g2, m2, c2, rfl, hm2, hcr, hb⟩
    replace K3 := K3.below hb K3.lt
    replace K4 := K4.below hb K4.lt
    replace K11 := K11.below hb K11.lt
    replace K12 := K12.below hb K12.lt
    replace HB : Hid (Below w.heap.size w w10) := HB.out.trans (hb.mono HB.out.size)
    clear hb
    have HCR := Lib.hid hcr
    clear hcr
    go_wp2_with fail
    refine (drawPkd_any (some ⟨g2, 0, none⟩) m2 c2 _ hm2 HCR.out).mono ?_
    rintro e w11 ⟨u, rfl, hb⟩
    replace K3 := K3.below hb K3.lt
    replace K4 := K4.below hb K4.lt
    replace K11 := K11.below hb K11.lt
    replace K12 := K12.below hb K12.lt
    replace HB : Hid (Below w.heap.size w w11) := HB.out.trans (hb.mono HB.out.size)
    clear hb
    clear HCR
    have HPF := Lib.hid (@pkd_facts u)
    have iP := Lib.hid (fun W => implPkd_any u W)
    have sP := Lib.hid (fun W => specPkd_any u W)
    generalize ipR u = I at *
    generalize vdO u = V at *
    replace K3 := K3.alloc (.cells (mk 16 u) 28)
    replace K4 := K4.alloc (.cells (mk 16 u) 28)
    replace K11 := K11.alloc (.cells (mk 16 u) 28)
    replace K12 := K12.alloc (.cells (mk 16 u) 28)
    have K18 := Blk.new w11 16 u 28
    replace HB : Hid (Below w.heap.size w (w11.alloc (.cells (mk 16 u) 28))) := HB.out.alloc HB.out.size _
    go_wp2_with ((with_reducible show wpList _ _ _ (Oper.mk _ (Op.load 28 _) _ _ _ _ :: _) _ _); refine loadB (K18) rfl rfl rfl ?_)
    generalize w11.heap.size = b18 at *
    generalize w11.alloc (.cells (mk 16 u) 28) = w11a at *
    refine (iP.out _).mono ?_
    rintro e w12 ⟨rfl, hb⟩
    replace K3 := K3.below hb K3.lt
    replace K4 := K4.below hb K4.lt
    replace K11 := K11.below hb K11.lt
    replace K12 := K12.below hb K12.lt
    replace K18 := K18.below hb K18.lt
    replace HB : Hid (Below w.heap.size w w12) := HB.out.trans (hb.mono HB.out.size)
    clear hb
    go_wp2_with ((with_reducible show wpList _ _ _ (Oper.mk _ (Op.load 28 _) _ _ _ _ :: _) _ _); refine loadB (K18) rfl rfl rfl ?_)
    refine (sP.out _).mono ?_
    rintro e w13 ⟨rfl, hb⟩
    replace K3 := K3.below hb K3.lt
    replace K4 := K4.below hb K4.lt
    replace K11 := K11.below hb K11.lt
    replace K12 := K12.below hb K12.lt
    replace K18 := K18.below hb K18.lt
    replace HB : Hid (Below w.heap.size w w13) := HB.out.trans (hb.mono HB.out.size)
    clear hb
    clear iP sP
    go_upto_if 123 with fail
    go_cut [] from 124 to 157 (fun wc => Blk wc b3 16 a 28 ∧ Blk wc (b3 + 1) 16 b 28 ∧ Blk wc b11 16 x 28 ∧ Blk wc (b11 + 1) 16 y 28 ∧ Below w.heap.size w wc)
    case first => as_aux_lemma =>
      cases hV : V with
      | false =>
        subst hV
        go_wp2_with fail
        go_meet
        case rel => exact ⟨K3, K4, K11, K12, HB.out⟩
      | true =>
        obtain ⟨P, h1, hP, h2⟩ := HPF.out hV
        subst hV
        have iE := Lib.hid h1
        have hsl := Lib.hid h2
        clear h1 h2
        go_wp2_with ((with_reducible show wpList _ _ _ (Oper.mk _ (Op.load 28 _) _ _ _ _ :: _) _ _); refine loadB (K18) rfl rfl rfl ?_)
        refine (iE.out _).mono ?_
        rintro e v1 ⟨rfl, hb⟩
        replace K3 := K3.below hb K3.lt
        replace K4 := K4.below hb K4.lt
        replace K11 := K11.below hb K11.lt
        replace K12 := K12.below hb K12.lt
        replace K18 := K18.below hb K18.lt
        replace HB : Hid (Below w.heap.size w v1) := HB.out.trans (hb.mono HB.out.size)
        clear hb
        cases I with
        | false =>
          go_wp2_with fail
          go_loopg [25] 1 (fun g s25 wr => wr = v1)
          case atStart => exact rfl
          case round =>
            obtain rfl := hrel
            go_wp2_with fail
            go_meet
            case rel => exact ⟨K3, K4, K11, K12, HB.out⟩
        | true =>
          obtain rfl : P = 0 := hP rfl
          go_wp2_with fail
          go_loopg [25] 4 (fun g s25 wr => ∃ d : Nat, d + g = 4 ∧ s25 = .int .i64 d ∧ Blk wr b18 16 u 28 ∧ Blk wr b3 16 a 28 ∧ Blk wr (b3 + 1) 16 b 28 ∧ Blk wr b11 16 x 28 ∧ Blk wr (b11 + 1) 16 y 28 ∧ Hid (Below w.heap.size w wr))
          case atStart => exact ⟨0, by omega, rfl, K18, K3, K4, K11, K12, HB⟩
          case round =>
            clear K18 K3 K4 K11 K12 HB
            obtain ⟨d, hdg, rfl, K18, K3, K4, K11, K12, HB⟩ := hrel
            cases gk with
            | zero =>
              have hd : ¬ ((d : Int) < 4) := by omega
              go_wp2_with fail
              go_meet
              case rel => exact ⟨K3, K4, K11, K12, HB.out⟩
            | succ g =>
              have hd : (d : Int) < 4 := by omega
              obtain ⟨X, s, h1, hs⟩ := hsl.out d (by omega)
              obtain rfl : s = 0 := by first | exact hs rfl | exact hs trivial
              have iX := Lib.hid h1
              clear h1 hs
              go_wp2_with ((with_reducible show wpList _ _ _ (Oper.mk _ (Op.load 28 _) _ _ _ _ :: _) _ _); refine loadB (K18) rfl rfl rfl ?_)
              refine (iX.out _).mono ?_
              rintro e v2 ⟨rfl, hb⟩
              replace K3 := (K3.below hb K3.lt).alloc (.cells (mk 16 X) 28)
              replace K4 := (K4.below hb K4.lt).alloc (.cells (mk 16 X) 28)
              replace K11 := (K11.below hb K11.lt).alloc (.cells (mk 16 X) 28)
              replace K12 := (K12.below hb K12.lt).alloc (.cells (mk 16 X) 28)
              replace K18 := (K18.below hb K18.lt).alloc (.cells (mk 16 X) 28)
              replace HB := HB.out.trans (hb.mono HB.out.size)
              replace HB : Hid (Below w.heap.size w (v2.alloc (.cells (mk 16 X) 28))) := HB.alloc HB.size _
              clear hb
              go_wp2_with fail
              go_roundg g
              case rel => exact ⟨d + 1, by omega, by go_num, K18, K3, K4, K11, K12, HB⟩
              case measure => omega
    case rest =>
      clear K18 HPF
      clear K3 K4 K11 K12 HB
      obtain ⟨K3, K4, K11, K12, hb0⟩ := hcut
      have HB := Lib.hid hb0
      clear hb0
      go_upto_if 158 with fail
      go_cut [] from 159 to 174 (fun wc => Blk wc b3 16 a 28 ∧ Blk wc (b3 + 1) 16 b 28 ∧ Blk wc b11 16 x 28 ∧ Blk wc (b11 + 1) 16 y 28 ∧ Below w.heap.size w wc)
      case first => as_aux_lemma =>
        cases hO : O2 with
        | false =>
          subst hO
          go_wp2_with fail
          go_meet
          case rel => exact ⟨K3, K4, K11, K12, HB.out⟩
        | true =>
          obtain ⟨R2, h1, e1, e2⟩ := HSF.out hO
          subst hO
          have iS := Lib.hid h1
          clear h1
          go_wp2_with (first | ((with_reducible show wpList _ _ _ (Oper.mk _ (Op.load 28 _) _ _ _ _ :: _) _ _); refine loadB (K11) rfl rfl rfl ?_) | ((with_reducible show wpList _ _ _ (Oper.mk _ (Op.load 28 _) _ _ _ _ :: _) _ _); refine loadB (K12) rfl rfl rfl ?_))
          refine (iS.out _).mono ?_
          rintro e v1 ⟨rfl, hb⟩
          replace K3 := K3.below hb K3.lt
          replace K4 := K4.below hb K4.lt
          replace K11 := K11.below hb K11.lt
          replace K12 := K12.below hb K12.lt
          replace HB : Hid (Below w.heap.size w v1) := HB.out.trans (hb.mono HB.out.size)
          clear hb
          go_wp2_with fail
          go_meet
          case rel => exact ⟨K3, K4, K11, K12, HB.out⟩
      case rest =>
        clear HSF
        clear K3 K4 K11 K12 HB
        obtain ⟨K3, K4, K11, K12, hb0⟩ := hcut
        have HB := Lib.hid hb0
        clear hb0
        cases hO : O with
        | false =>
          subst hO
          go_wp2_with fail
          go_ret
          exact ⟨rfl, HB.out⟩
        | true =>
          obtain ⟨SA, SB, h1, h2, m0, m1, m2, m3, m4, m5, m6⟩ := HMF.out hO
          subst hO
          have iA := Lib.hid h1
          have iB := Lib.hid h2
          clear h1 h2
          go_wp2_with ((with_reducible show wpList _ _ _ (Oper.mk _ (Op.load 28 _) _ _ _ _ :: _) _ _); refine loadB (K3) rfl rfl rfl ?_)
          refine (iA.out _).mono ?_
          rintro e v1 ⟨rfl, hb⟩
          replace K4 := K4.below hb K4.lt
          replace HB : Hid (Below w.heap.size w v1) := HB.out.trans (hb.mono HB.out.size)
          clear hb
          go_wp2_with ((with_reducible show wpList _ _ _ (Oper.mk _ (Op.load 28 _) _ _ _ _ :: _) _ _); refine loadB (K4) rfl rfl rfl ?_)
          refine (iB.out _).mono ?_
          rintro e v2 ⟨rfl, hb⟩
          replace HB : Hid (Below w.heap.size w v2) := HB.out.trans (hb.mono HB.out.size)
          clear hb
          have e1 : IntKind.i64.wrap (2 * M) = 2 * M := IntWalk.i64_in _ (by omega)
          have e2 : IntKind.i64.wrap (SB - SA) = SB - SA := IntWalk.i64_in _ (by omega)
          have e3 : IntKind.i64.wrap (4 * L) = 4 * L := IntWalk.i64_in _ (by omega)
          have e4 : IntKind.i64.wrap (SB - SA + 4) = SB - SA + 4 := IntWalk.i64_in _ (by omega)
          go_wp2_with fail
          go_ret
          exact ⟨rfl, HB.out⟩
  · have dl : decide ((65536 : Int) < (len0 : Int)) = true := by simp; omega
    go_enter Try.func12, Try.ntmps12
    go_wp2_with fail
    refine (vBig_any _ _ _ _).mono ?_
    rintro e w' ⟨rfl, rfl⟩
    rw [dl]
    go_wp2_with fail
    go_ret
    exact ⟨rfl, Below.refl _ _⟩

noncomputable def laidWorld (os : Os) : World := World.holding Try.prog os ⟨#[], #[], []⟩
theorem laid_met (os : Os) : laidMet Try.prog Rows.fnBetweenRow.laid ((laidWorld os).forCall (fun _ _ => 0) ⟨#[], #[.slice none 0 0], []⟩).memory := laidMet_of_run' 8 (by kernel_rfl) (by kernel_rfl)
theorem reads (os : Os) {H : Type} (enc : TypeId × Value → H) : ∃ places, DataW.whole enc Try.prog ((laidWorld os).forCall (fun _ _ => 0) ⟨#[], #[.slice none 0 0], []⟩).memory Try.f12.params.toList Rows.fnBetweenSpec.vars false #[.slice none 0 0].toList 8 = some ([.nil], [], places) :=
  ⟨[], by kernel_rfl⟩
set_option linter.unusedVariables false in
set_option maxRecDepth 100000 in
theorem lifted (os : Os) (started : os.Started) (H : Type) (enc : TypeId × Value → H) (F : Stop.Interp) :
    ReturnsInHanded {} Try.checked os 12 .any ((OpenSpec.ofChange Rows.fnBetweenSpec).preRow enc Try.prog Try.f12 Rows.fnBetweenRow.domain false Rows.fnBetweenRow.laid) (((OpenSpec.ofChange Rows.fnBetweenSpec).at F).post enc Try.prog Try.f12 false true false false) := by
  obtain ⟨places, hx⟩ := reads os enc
  refine returnsInHanded_of_row (C := Try.checked) (s := (OpenSpec.ofChange Rows.fnBetweenSpec)) own started (by kernel_rfl) Try.func12
    (witness_row_at (enc := enc) (C := Try.checked) false (laidWorld os) #[.slice none 0 0] rfl (by kernel_rfl) (by kernel_rfl) (by kernel_rfl)
      (OpenSpec.preRow_of_cond 8 hx (by kernel_rfl) (fun k hk => by cases hk) (by kernel_rfl) (laid_met os))) ?_
  intro W base args ds gs before hval0 hW _ hcond hsz hL hsh _
  have hval : ∀ (j : Nat) t v, Try.f12.params[j]? = some t → args[j]? = some v → Value.okWide Try.prog W .any base t v := hval0
  have hW' := hW
  obtain ⟨p, q, hA0, hV, rfl, hfz, hnd⟩ := hW
  have hA : DataW.TrodAll enc Try.prog W 0 (fun _ => true) true Try.f12.params.toList args.toList ds p := hA0
  rw [Try.params12] at hA hval
  obtain ⟨v0, vs0, d0, ds0, p0, q0, hargs, rfl, rfl, h0, r0⟩ := trodAll_cons hA
  obtain ⟨rfl, rfl, rfl⟩ := trodAll_nil r0
  obtain rfl : args = #[v0] := by cases args; simp_all
  obtain ⟨rfl, rfl⟩ := trodVars_none hV
  obtain ⟨a0, len0, cap0, rfl⟩ := okWide_slice Try.underlying45 (hval 0 45 v0 rfl rfl)
  have k0 := h0
  have lt0 : ∀ x ∈ p0, x.block < W.heap.size := by obtain ⟨m, hm⟩ := k0; exact DataW.trod_lt m _ _ _ hm
  obtain ⟨z0, w0⟩ : ∃ zs, IsRow .u8 W a0 len0 cap0 zs := by
    obtain ⟨fuel, hf⟩ := h0
    rcases open_ints Try.underlying45 Try.underlying5 (by kernel_rfl) hf with ⟨hcs, _⟩ | ⟨x, l, c, zs, hcs, _, hl, hm, hz, _, hcell, hwz⟩
    · simp [Value.cells] at hcs; obtain ⟨rfl, rfl, rfl⟩ := hcs; exact ⟨[], .inl ⟨rfl, rfl, rfl, rfl⟩⟩
    · simp [Value.cells] at hcs; obtain ⟨rfl, rfl, rfl⟩ := hcs; exact ⟨zs, .inr ⟨_, rfl, hl, hm, by simpa using hz, hcell, hwz⟩⟩
  clear hA0 hval0
  have hwalk : Calls Try.prog 12 #[.slice a0 len0 cap0] W fun e w' => e = .returned (.bool true) ∧ Below W.heap.size W w' := walk W hsh a0 len0 cap0 z0 w0
  refine hwalk.mono fun e W' ⟨he, bel⟩ => ?_
  subst he
  exact ⟨_, rfl, _, _, _, [], _, [], hW', trodAll_mk1 (shut_bool Try.underlying4 _), (trodAll_cons_mk (Below.trod laidOut (by kernel_rfl) (of_decide_eq_true (by kernel_rfl)) k0 bel lt0) trodAll_mk0), rfl, bel.frame _, fun h => by cases h⟩
theorem closed : joinedFacts Try.pinned.checked.prog 12 Try.f12 ((OpenSpec.ofChange Rows.fnBetweenSpec)).bare Rows.fnBetweenRow = true := by
  unfold joinedFacts
  repeat' with_reducible refine and_mk ?_ ?_
  case refine_1.refine_1.refine_1.refine_1.refine_1.refine_1.refine_2 => exact enters
  case refine_1.refine_1.refine_1.refine_1.refine_1.refine_2 => exact (show (Rows.fnBetweenRow.lifted == Try.prog.liftsFinal) = true by rw [final_no]; rfl)
  case refine_1.refine_1.refine_1.refine_1.refine_2 => exact (show (Try.prog.make == some Rows.fnBetweenRow.make) = true by rw [make_cut]; rfl)
  case refine_1.refine_1.refine_1.refine_1.refine_1.refine_1.refine_1.refine_1.refine_1.refine_1.refine_1.refine_1.refine_1.refine_1.refine_1.refine_1.refine_1.refine_1.refine_1.refine_1.refine_1.refine_1.refine_1.refine_1.refine_1.refine_1.refine_1.refine_1.refine_1.refine_1.refine_2 => exact laidOut
  case refine_1.refine_1.refine_1.refine_1.refine_1.refine_1.refine_1.refine_1.refine_1.refine_1.refine_1.refine_1.refine_1.refine_1.refine_1.refine_1.refine_1.refine_1.refine_1.refine_1.refine_1.refine_1.refine_1.refine_1.refine_1.refine_1.refine_1.refine_1.refine_1.refine_2 => exact maps_rowed
  case refine_1.refine_1.refine_1.refine_1.refine_1.refine_1.refine_1.refine_2 => exact stops_heard
  all_goals (as_aux_lemma => kernel_rfl)
theorem proved : Rows.FnBetweenSaid :=
  OpenClaim.holds_of_cond 12 Try.f12 rfl rfl rfl rfl rfl rfl rfl ⟨rfl, rfl, rfl, rfl, rfl⟩ rfl rfl rfl rfl rfl (by kernel_rfl) Try.func12 closed
    (of_decide_eq_true (by kernel_rfl)) (by unfold Func.isWrapper; first | (rw [if_pos (by decide +kernel)]; kernel_rfl) | (rw [if_neg (by decide +kernel)]; exact ⟨rfl, rfl⟩))
    (fun os started H enc _ F => by rw [OpenClaim.pre_eq_preRow]; exact lifted os started H enc F)
#print axioms proved
end Go.Proofs.Ytmcmpedmgibmkaa.fnBetween
