/-
  Proved: for every code, the law FnBack returns true, and the code reads as it did. No condition.
-/
import Derived.Test.YtmcmpedmgibmkabGreatBackEnd
import Derived.Test.YtmcmpedmgibmkabGreatBackStep
import Derived.Test.YtmcmpedmgibmkabGreatArises
import Derived.Test.YtmcmpedmgibmkabGreatImplTake
import Derived.Test.YtmcmpedmgibmkabGreatImplWays
import Derived.Test.YtmcmpedmgibmkabGreatImplSlideBoard
import Derived.Test.YtmcmpedmgibmkabGreatLessDr
import Derived.Test.YtmcmpedmgibmkabGreatCellA
import Derived.Test.YtmcmpedmgibmkabGreatBaseA
import Derived.Test.YtmcmpedmgibmkabGreatClosed
import Derived.Deep.CutRange
namespace Go.Proofs.YtmcmpedmgibmkabGreat.fnBack
open Go.ChangeShapes Go.WideShapes Go.ChangeAt Go.RowKit Plain
attribute [local go_sem] store_new
set_option linter.unusedSimpArgs false
set_option linter.unusedVariables false
theorem crow_list {w : World} {b g c n : Nat} {L : List Int} (ho : OwnsCells w b (.slice (some ⟨g, 0, none⟩) n c) n L) (hl : L.length = n * 2) : CRow w (.slice (some ⟨g, 0, none⟩) n c) n (fun i => L.getD i 0) := by
  unfold OwnsCells at ho
  rw [ints_mk, hl] at ho
  exact CRow.of_own ho
theorem irow_list {w : World} {b g c : Nat} {L : List Int} (ho : OwnsInts w b (.slice (some ⟨g, 0, none⟩) L.length c) L) : IRow w (.slice (some ⟨g, 0, none⟩) L.length c) L.length (fun i => L.getD i 0) := by
  unfold OwnsInts at ho
  rw [ints_mk] at ho
  exact IRow.of_own ho
theorem execAX {o : Oper} {ev : Operand → Value} {w : World} {b n off : Nat} {f : Nat → Int} {x : Operand} (hg : CAt w b n f) (hm : off + 16 ≤ n) (ho : o.op = .load 27 x) (hx : ev x = .pointer (some ⟨b, off, none⟩)) :
    (execOp ev o).run Tryz.prog w = .ok (.value (.agg (mk 16 (fun i => f (off + i))))) w := exec_load_at _ x ho hx hg hm Tryz.underlying27 rfl sizeB
theorem wp_allocXB {w : World} {o : Oper} {a : Act} {K : Act → World → Prop} {Q : Exit → Act → World → Prop} (ho : o.op = .alloc 27)
    (h : K (a.put o.dst (.pointer (some ⟨w.heap.size, 0, none⟩))) (w.alloc (.cells (mk 16 fun _ => 0) 27))) : o.wp Tryz.prog a w K Q := by
  have z16 := zero16
  unfold Oper.wp
  go_simp
  exact h
theorem neqB_self (f : Nat → Int) (w : World) : (binOp .neq 27 (.agg (mk 16 f)) (.agg (mk 16 f))).run Tryz.prog w = .ok (.bool false) w := by
  rw [neqB, sameB_iff.2 fun _ _ => rfl]; rfl
theorem neqR_self (f : Nat → Int) (w : World) : (binOp .neq 24 (.agg (mk 4 f)) (.agg (mk 4 f))).run Tryz.prog w = .ok (.bool false) w := by
  rw [neqR, show sameR f f = true by simp [sameR]]; rfl
theorem same_at {a x f : Nat → Int} (e : ∀ j, j < 16 → a j = x j) (h : sameB x f = false) : sameB a f = false := by
  cases hq : sameB a f with
  | false => rfl
  | true =>
    have := sameB_iff.1 hq
    rw [sameB_iff.2 fun j hj => (e j hj).symm.trans (this j hj)] at h
    cases h
set_option maxHeartbeats 16000000 in
set_option maxRecDepth 100000 in
theorem walk (w : World) (_ : w.ShapedOpen Tryz.prog) (a0 : Option Addr) (len0 cap0 : Nat) (z0 : List Int) (hr : IsRow .u8 w a0 len0 cap0 z0) :
    Calls Tryz.prog 3 #[.slice a0 len0 cap0] w fun e w' => e = .returned (.bool true) ∧ Below w.heap.size w w' := by
  have z16 := zero16
  have z4 := zero4
  have HR := Lib.hid hr
  have HB : Hid (Below w.heap.size w w) := Below.refl w.heap.size w
  clear hr
  by_cases hl : len0 ≤ 65536
  · have dl : decide ((65536 : Int) < (len0 : Int)) = false := by simp; omega
    go_enter Tryz.func3, Tryz.ntmps3
    go_wp2_with fail
    refine (rBig_any a0 len0 cap0 _).mono ?_
    rintro e w' ⟨rfl, rfl⟩
    rw [dl]
    clear dl
    go_wp2_with fail
    refine (drawBoardsBefore_any a0 len0 cap0 _ hl (HR.out.code)).mono ?_
    rintro e w1 ⟨f, d, rfl, hb⟩
    have HBw : Hid (Below w.heap.size w w1) := hb
    have K3 := Blk.new w1 16 f 27
    replace HB : Hid (Below w.heap.size w (w1.alloc (.cells (mk 16 f) 27))) := HBw.out.alloc HBw.out.size _
    clear hb HBw
    obtain ⟨n, hn⟩ : ∃ F, F = (bbR f d).length := ⟨_, rfl⟩
    obtain ⟨h, hh⟩ : ∃ F, F = flatF (bbR f d) := ⟨_, rfl⟩
    obtain ⟨ok, hok⟩ : ∃ F, F = bbO f d := ⟨_, rfl⟩
    obtain ⟨one, h1⟩ : ∃ F, F = slideRO f d := ⟨_, rfl⟩
    obtain ⟨N, hN⟩ : ∃ F, F = cbR f d := ⟨_, rfl⟩
    obtain ⟨m, hm⟩ : ∃ F, F = (siR f).length := ⟨_, rfl⟩
    obtain ⟨hs, hhs⟩ : ∃ F, F = fun i => (siR f).getD i 0 := ⟨_, rfl⟩
    obtain ⟨V, hV⟩ : ∃ F, F = vdO f := ⟨_, rfl⟩
    obtain ⟨M, hM⟩ : ∃ F, F = mdR f := ⟨_, rfl⟩
    obtain ⟨W4, hW⟩ : ∃ F, F = wyR f := ⟨_, rfl⟩
    have iBB : Hid (∀ W, Calls Tryz.prog 6 #[.agg (mk 16 f), .int .i64 d] W fun e w' => ∃ g c, e = .returned (.tuple #[.slice (some ⟨g, 0, none⟩) n c, .bool ok]) ∧ KRow 16 w' (.slice (some ⟨g, 0, none⟩) n c) n h ∧ Below W.heap.size W w') := by
      show ∀ W, _; intro W; rw [hn, hh, hok]; exact (implBB_any f d W).mono fun e w' ⟨g, c, r1, r2, r3⟩ => ⟨g, c, r1, KRow.of_list (bbR_len f d) r2, r3⟩
    have sBB : Hid (∀ W, Calls Tryz.prog 7 #[.agg (mk 16 f), .int .i64 d] W fun e w' => ∃ g c, e = .returned (.tuple #[.slice (some ⟨g, 0, none⟩) n c, .bool ok]) ∧ KRow 16 w' (.slice (some ⟨g, 0, none⟩) n c) n h ∧ Below W.heap.size W w') := by
      show ∀ W, _; intro W; rw [hn, hh, hok]; exact (specBB_any f d W).mono fun e w' ⟨g, c, r1, r2, r3⟩ => ⟨g, c, r1, KRow.of_list (bbR_len f d) r2, r3⟩
    have iCB : Hid (∀ W, Calls Tryz.prog 8 #[.agg (mk 16 f), .int .i64 d] W fun e w' => e = .returned (.tuple #[.int .i64 N, .bool one]) ∧ Below W.heap.size W w') := by show ∀ W, _; rw [hN, h1]; exact implCountB_any f d
    have sCB : Hid (∀ W, Calls Tryz.prog 9 #[.agg (mk 16 f), .int .i64 d] W fun e w' => e = .returned (.tuple #[.int .i64 N, .bool one]) ∧ Below W.heap.size W w') := by show ∀ W, _; rw [hN, h1]; exact specCountB_any f d
    have iSI : Hid (∀ W, Calls Tryz.prog 10 #[.agg (mk 16 f)] W fun e w' => ∃ g c, e = .returned (.tuple #[.slice (some ⟨g, 0, none⟩) m c, .bool V]) ∧ IRow w' (.slice (some ⟨g, 0, none⟩) m c) m hs ∧ Below W.heap.size W w') := by
      show ∀ W, _; intro W; rw [hm, hhs, hV]; exact (implSides_any f W).mono fun e w' ⟨g, c, r1, r2, r3⟩ => ⟨g, c, r1, irow_list r2, r3⟩
    have sSI : Hid (∀ W, Calls Tryz.prog 11 #[.agg (mk 16 f)] W fun e w' => ∃ g c, e = .returned (.tuple #[.slice (some ⟨g, 0, none⟩) m c, .bool V]) ∧ IRow w' (.slice (some ⟨g, 0, none⟩) m c) m hs ∧ Below W.heap.size W w') := by
      show ∀ W, _; intro W; rw [hm, hhs, hV]; exact (specSides_any f W).mono fun e w' ⟨g, c, r1, r2, r3⟩ => ⟨g, c, r1, irow_list r2, r3⟩
    have iMD : Hid (∀ W, Calls Tryz.prog 14 #[.agg (mk 16 f)] W fun e w' => e = .returned (.tuple #[.bool M, .bool V]) ∧ Below W.heap.size W w') := by show ∀ W, _; rw [hM, hV]; exact implMade_any f
    have sMD : Hid (∀ W, Calls Tryz.prog 15 #[.agg (mk 16 f)] W fun e w' => e = .returned (.tuple #[.bool M, .bool V]) ∧ Below W.heap.size W w') := by show ∀ W, _; rw [hM, hV]; exact specMade_any f
    have iWY : Hid (∀ W, Calls Tryz.prog 16 #[.agg (mk 16 f)] W fun e w' => e = .returned (.tuple #[.agg (mk 4 W4), .bool V]) ∧ Below W.heap.size W w') := by show ∀ W, _; rw [hW, hV]; exact implWays_any f
    have sWY : Hid (∀ W, Calls Tryz.prog 17 #[.agg (mk 16 f)] W fun e w' => e = .returned (.tuple #[.agg (mk 4 W4), .bool V]) ∧ Below W.heap.size W w') := by show ∀ W, _; rw [hW, hV]; exact specWays_any f
    have HNL : Hid (n ≤ 50625) := by show _ ≤ _; rw [hn]; exact bbR_le f d
    have HML : Hid (m ≤ 4) := by show _ ≤ _; rw [hm]; exact siR_le f
    have HK1 : Hid (ok = (one && decide (N ≤ 300))) := by show _ = _; rw [hok, h1, hN]; exact bbO_eq f d
    have HK2 : Hid (ok = true → (n : Int) = N) := by show _ → _; rw [hok, hn, hN]; exact fb_len
    have HP : Hid (one = true → hasI hs m d = decide (0 < N)) := by show _ → _; rw [h1, hhs, hm, hN]; exact fb_pos
    have HM : Hid (M = decide (0 < m)) := by show _ = _; rw [hM, hm]; rfl
    have HD : Hid (one = true → ∃ k : Nat, d = k ∧ k < 4 ∧ W4 k = N) := by show _ → _; rw [h1, hW, hN]; exact fb_one
    have HS1 : Hid (∀ i, i < n → ∃ (X : Nat → Int) (s : Int), (∀ W, Calls Tryz.prog 25 #[.agg (mk 16 fun c => h (i * 16 + c)), .int .i64 d] W fun e w' => e = .returned (.tuple #[.agg (mk 16 X), .int .i64 s, .bool true]) ∧ Below W.heap.size W w') ∧ sameB X f = true ∧ sameB (fun c => h (i * 16 + c)) f = false) := by
      show ∀ i, _
      intro i hi
      rw [hn] at hi
      obtain ⟨x, hx, hxm⟩ := fb_at hi
      obtain ⟨a1, a2, a3⟩ := fb_slide hxm
      refine ⟨slideRB (fn x) d, slideRS (fn x) d, fun W => ?_, a2, ?_⟩
      · have := implSlide_any (fn x) d W
        rw [a1] at this
        rw [hh, flatF_mk (bbR_len f d) hx]
        exact this
      · rw [hh]
        exact same_at (fun j hj => flatF_at (bbR_len f d) hx hj) a3
    have HS2 : Hid (∀ i, i + 1 < n → ∀ W, Calls Tryz.prog 27 #[.agg (mk 16 fun c => h (i * 16 + c)), .agg (mk 16 fun c => h ((i + 1) * 16 + c))] W fun e w' => e = .returned (.tuple #[.bool true, .bool true]) ∧ Below W.heap.size W w') := by
      show ∀ i, _
      intro i hi W
      rw [hn] at hi
      obtain ⟨x, hx, _⟩ := fb_at (f := f) (d := d) (i := i) (by omega)
      obtain ⟨y, hy, _⟩ := fb_at hi
      obtain ⟨q1, q2⟩ := fb_less hx hy
      rw [hh, flatF_mk (bbR_len f d) hx, flatF_mk (bbR_len f d) hy]
      refine (Dr.implLess_any (fn x) (fn y) W).mono ?_
      rintro e w' ⟨r, hb⟩
      rw [q1, q2] at r
      exact ⟨r, hb.low⟩
    clear hn hh hok h1 hN hm hhs hV hM hW
    go_wp2_with (first | ((with_reducible show wpList _ _ _ (Oper.mk _ (Op.load 27 _) _ _ _ _ :: _) _ _); refine loadB (K3) rfl rfl rfl ?_) | ((with_reducible show wpList _ _ _ (Oper.mk _ (Op.load 27 _) _ _ _ (some _) :: _) _ _); refine loadgB (K3) rfl rfl rfl ?_))
    refine (iBB.out _).mono ?_
    rintro e w2 ⟨g1, c1, rfl, hrow, hb⟩
    replace K3 := K3.below hb K3.lt
    replace HB : Hid (Below w.heap.size w w2) := HB.out.trans (hb.mono HB.out.size)
    clear hb
    have R1 := Lib.hid hrow
    clear hrow
    go_wp2_with (first | ((with_reducible show wpList _ _ _ (Oper.mk _ (Op.load 27 _) _ _ _ _ :: _) _ _); refine loadB (K3) rfl rfl rfl ?_) | ((with_reducible show wpList _ _ _ (Oper.mk _ (Op.load 27 _) _ _ _ (some _) :: _) _ _); refine loadgB (K3) rfl rfl rfl ?_))
    refine (sBB.out _).mono ?_
    rintro e w3 ⟨g2, c2, rfl, hrow, hb⟩
    replace K3 := K3.below hb K3.lt
    replace R1 := Lib.hid (R1.out.below hb)
    replace HB : Hid (Below w.heap.size w w3) := HB.out.trans (hb.mono HB.out.size)
    clear hb
    have R2 := Lib.hid hrow
    clear hrow
    generalize w1.heap.size = b3 at *
    go_wp2_with (first | ((with_reducible show wpList _ _ _ (Oper.mk _ (Op.load 27 _) _ _ _ _ :: _) _ _); refine loadB (K3) rfl rfl rfl ?_) | ((with_reducible show wpList _ _ _ (Oper.mk _ (Op.load 27 _) _ _ _ (some _) :: _) _ _); refine loadgB (K3) rfl rfl rfl ?_))
    refine (iCB.out _).mono ?_
    rintro e w4 ⟨rfl, hb⟩
    replace K3 := K3.below hb K3.lt
    replace R1 := Lib.hid (R1.out.below hb)
    replace R2 := Lib.hid (R2.out.below hb)
    replace HB : Hid (Below w.heap.size w w4) := HB.out.trans (hb.mono HB.out.size)
    clear hb
    go_wp2_with (first | ((with_reducible show wpList _ _ _ (Oper.mk _ (Op.load 27 _) _ _ _ _ :: _) _ _); refine loadB (K3) rfl rfl rfl ?_) | ((with_reducible show wpList _ _ _ (Oper.mk _ (Op.load 27 _) _ _ _ (some _) :: _) _ _); refine loadgB (K3) rfl rfl rfl ?_))
    refine (sCB.out _).mono ?_
    rintro e w5 ⟨rfl, hb⟩
    replace K3 := K3.below hb K3.lt
    replace R1 := Lib.hid (R1.out.below hb)
    replace R2 := Lib.hid (R2.out.below hb)
    replace HB : Hid (Below w.heap.size w w5) := HB.out.trans (hb.mono HB.out.size)
    clear hb
    go_upto_region 10 with fail
    go_cut [118] from 118 to 118 (fun s118 wc => s118 = .bool false ∧ Blk wc b3 16 f 27 ∧ KRow 16 wc (.slice (some ⟨g1, 0, none⟩) n c1) n h ∧ KRow 16 wc (.slice (some ⟨g2, 0, none⟩) n c2) n h ∧ Below w.heap.size w wc)
    case first => as_aux_lemma =>
      have hk1 := HK1.out
      have hk2 := HK2.out
      cases hone : one with
      | false =>
        rw [hone] at hk1
        subst hone
        replace hk1 : ok = false := by simpa using hk1
        subst hk1
        clear hk2
        go_wp2_with fail
        go_meet
        case rel => exact ⟨by first | rfl | (simp; omega), K3, R1.out, R2.out, HB.out⟩
      | true =>
        rw [hone] at hk1
        subst hone
        by_cases h300 : N ≤ 300
        · replace hk1 : ok = true := by simpa [h300] using hk1
          have hk3 := hk2 hk1
          subst hk1
          subst hk3
          clear hk2
          go_wp2_with fail
          go_meet
          case rel => exact ⟨by first | rfl | (simp; omega), K3, R1.out, R2.out, HB.out⟩
        · replace hk1 : ok = false := by simpa [h300] using hk1
          subst hk1
          clear hk2
          go_wp2_with fail
          go_meet
          case rel => exact ⟨by first | rfl | (simp; omega), K3, R1.out, R2.out, HB.out⟩
    case rest =>
      clear K3 R1 R2 HB 
      obtain ⟨rfl, K3, r1, r2, hb0⟩ := hcut
      have HB := Lib.hid hb0
      have R1 := Lib.hid r1
      have R2 := Lib.hid r2
      clear r1 r2 hb0
      go_wp2_with (first | ((with_reducible show wpList _ _ _ (Oper.mk _ (Op.load 27 _) _ _ _ _ :: _) _ _); refine loadB (K3) rfl rfl rfl ?_) | ((with_reducible show wpList _ _ _ (Oper.mk _ (Op.load 27 _) _ _ _ (some _) :: _) _ _); refine loadgB (K3) rfl rfl rfl ?_))
      refine (iSI.out _).mono ?_
      rintro e w6 ⟨g3, c3, rfl, hrow, hb⟩
      replace K3 := K3.below hb K3.lt
      replace R1 := Lib.hid (R1.out.below hb)
      replace R2 := Lib.hid (R2.out.below hb)
      replace HB : Hid (Below w.heap.size w w6) := HB.out.trans (hb.mono HB.out.size)
      clear hb
      have R3 := Lib.hid hrow
      clear hrow
      go_wp2_with (first | ((with_reducible show wpList _ _ _ (Oper.mk _ (Op.load 27 _) _ _ _ _ :: _) _ _); refine loadB (K3) rfl rfl rfl ?_) | ((with_reducible show wpList _ _ _ (Oper.mk _ (Op.load 27 _) _ _ _ (some _) :: _) _ _); refine loadgB (K3) rfl rfl rfl ?_))
      refine (sSI.out _).mono ?_
      rintro e w7 ⟨g4, c4, rfl, hrow, hb⟩
      replace K3 := K3.below hb K3.lt
      replace R1 := Lib.hid (R1.out.below hb)
      replace R2 := Lib.hid (R2.out.below hb)
      replace R3 := Lib.hid (R3.out.below hb)
      replace HB : Hid (Below w.heap.size w w7) := HB.out.trans (hb.mono HB.out.size)
      clear hb
      have R4 := Lib.hid hrow
      clear hrow
      go_upto_region 14 with fail
      go_cut [148] from 148 to 148 (fun s148 wc => s148 = .bool false ∧ Blk wc b3 16 f 27 ∧ KRow 16 wc (.slice (some ⟨g1, 0, none⟩) n c1) n h ∧ KRow 16 wc (.slice (some ⟨g2, 0, none⟩) n c2) n h ∧ Below w.heap.size w wc)
      case first => as_aux_lemma =>
        have hp := HP.out
        cases hone : one with
        | false =>
          clear hp
          subst hone
          go_wp2_with fail
          refine (rInts_yes _ _ m hs _ R3.out R4.out (by have := HML.out; omega)).mono ?_
          rintro e w8 ⟨rfl, q8, hq8⟩
          have hb : Below w7.heap.size w7 w8 := by rw [hq8]; exact below_drewN (Below.refl _ _) _
          clear hq8
          replace K3 := K3.below hb K3.lt
          replace R1 := Lib.hid (R1.out.below hb)
          replace R2 := Lib.hid (R2.out.below hb)
          replace R3 := Lib.hid (R3.out.below hb)
          replace HB : Hid (Below w.heap.size w w8) := HB.out.trans (hb.mono HB.out.size)
          clear hb
          go_wp2_with fail
          go_meet
          case rel => exact ⟨by first | rfl | (simp; omega), K3, R1.out, R2.out, HB.out⟩
        | true =>
          have hp1 := hp hone
          clear hp
          subst hone
          go_wp2_with fail
          refine (rInts_yes _ _ m hs _ R3.out R4.out (by have := HML.out; omega)).mono ?_
          rintro e w8 ⟨rfl, q8, hq8⟩
          have hb : Below w7.heap.size w7 w8 := by rw [hq8]; exact below_drewN (Below.refl _ _) _
          clear hq8
          replace K3 := K3.below hb K3.lt
          replace R1 := Lib.hid (R1.out.below hb)
          replace R2 := Lib.hid (R2.out.below hb)
          replace R3 := Lib.hid (R3.out.below hb)
          replace HB : Hid (Below w.heap.size w w8) := HB.out.trans (hb.mono HB.out.size)
          clear hb
          go_wp2_with fail
          refine (rHas_any _ m hs d _ R3.out (by have := HML.out; omega)).mono ?_
          rintro e w9 ⟨rfl, rfl⟩
          by_cases hN0 : 0 < N
          · have hp2 : hasI hs m d = true := by rw [hp1]; exact decide_eq_true hN0
            rw [hp2]
            clear hp1 hp2
            go_wp2_with fail
            go_meet
            case rel => exact ⟨by first | rfl | (simp; omega), K3, R1.out, R2.out, HB.out⟩
          · have hp2 : hasI hs m d = false := by rw [hp1]; exact decide_eq_false hN0
            rw [hp2]
            clear hp1 hp2
            go_wp2_with fail
            go_meet
            case rel => exact ⟨by first | rfl | (simp; omega), K3, R1.out, R2.out, HB.out⟩
      case rest =>
        clear K3 R1 R2 HB R3 R4
        obtain ⟨rfl, K3, r1, r2, hb0⟩ := hcut
        have HB := Lib.hid hb0
        have R1 := Lib.hid r1
        have R2 := Lib.hid r2
        clear r1 r2 hb0
        go_wp2_with (first | ((with_reducible show wpList _ _ _ (Oper.mk _ (Op.load 27 _) _ _ _ _ :: _) _ _); refine loadB (K3) rfl rfl rfl ?_) | ((with_reducible show wpList _ _ _ (Oper.mk _ (Op.load 27 _) _ _ _ (some _) :: _) _ _); refine loadgB (K3) rfl rfl rfl ?_))
        refine (iMD.out _).mono ?_
        rintro e w10 ⟨rfl, hb⟩
        replace K3 := K3.below hb K3.lt
        replace R1 := Lib.hid (R1.out.below hb)
        replace R2 := Lib.hid (R2.out.below hb)
        replace HB : Hid (Below w.heap.size w w10) := HB.out.trans (hb.mono HB.out.size)
        clear hb
        go_wp2_with (first | ((with_reducible show wpList _ _ _ (Oper.mk _ (Op.load 27 _) _ _ _ _ :: _) _ _); refine loadB (K3) rfl rfl rfl ?_) | ((with_reducible show wpList _ _ _ (Oper.mk _ (Op.load 27 _) _ _ _ (some _) :: _) _ _); refine loadgB (K3) rfl rfl rfl ?_))
        refine (sMD.out _).mono ?_
        rintro e w11 ⟨rfl, hb⟩
        replace K3 := K3.below hb K3.lt
        replace R1 := Lib.hid (R1.out.below hb)
        replace R2 := Lib.hid (R2.out.below hb)
        replace HB : Hid (Below w.heap.size w w11) := HB.out.trans (hb.mono HB.out.size)
        clear hb
        go_upto_region 18 with fail
        go_cut [178] from 178 to 178 (fun s178 wc => s178 = .bool false ∧ Blk wc b3 16 f 27 ∧ KRow 16 wc (.slice (some ⟨g1, 0, none⟩) n c1) n h ∧ KRow 16 wc (.slice (some ⟨g2, 0, none⟩) n c2) n h ∧ Below w.heap.size w wc)
        case first => as_aux_lemma =>
          have hm1 := HM.out
          by_cases hm0 : 0 < m
          · replace hm1 : M = true := by rw [hm1]; exact decide_eq_true hm0
            subst hm1
            have hm2 : (0 : Int) < (m : Int) := by omega
            go_wp2_with fail
            go_meet
            case rel => exact ⟨by first | rfl | (simp; omega), K3, R1.out, R2.out, HB.out⟩
          · replace hm1 : M = false := by rw [hm1]; exact decide_eq_false hm0
            subst hm1
            have hm2 : ¬ ((0 : Int) < (m : Int)) := by omega
            go_wp2_with fail
            go_meet
            case rel => exact ⟨by first | rfl | (simp; omega), K3, R1.out, R2.out, HB.out⟩
        case rest =>
          clear K3 R1 R2 HB 
          obtain ⟨rfl, K3, r1, r2, hb0⟩ := hcut
          have HB := Lib.hid hb0
          have R1 := Lib.hid r1
          have R2 := Lib.hid r2
          clear r1 r2 hb0
          go_wp2_with (first | ((with_reducible show wpList _ _ _ (Oper.mk _ (Op.load 27 _) _ _ _ _ :: _) _ _); refine loadB (K3) rfl rfl rfl ?_) | ((with_reducible show wpList _ _ _ (Oper.mk _ (Op.load 27 _) _ _ _ (some _) :: _) _ _); refine loadgB (K3) rfl rfl rfl ?_))
          refine (iWY.out _).mono ?_
          rintro e w12 ⟨rfl, hb⟩
          replace K3 := K3.below hb K3.lt
          replace R1 := Lib.hid (R1.out.below hb)
          replace R2 := Lib.hid (R2.out.below hb)
          replace HB : Hid (Below w.heap.size w w12) := HB.out.trans (hb.mono HB.out.size)
          clear hb
          replace K3 := K3.alloc (.cells (mk 4 W4) 24)
          replace R1 := Lib.hid (R1.out.below ((Below.refl w12.heap.size w12).alloc (Nat.le_refl _) (.cells (mk 4 W4) 24)))
          replace R2 := Lib.hid (R2.out.below ((Below.refl w12.heap.size w12).alloc (Nat.le_refl _) (.cells (mk 4 W4) 24)))
          have K21 := Blk.new w12 4 W4 24
          replace HB : Hid (Below w.heap.size w (w12.alloc (.cells (mk 4 W4) 24))) := HB.out.alloc HB.out.size _
          go_wp2_with (first | ((with_reducible show wpList _ _ _ (Oper.mk _ (Op.load 27 _) _ _ _ _ :: _) _ _); refine loadB (K3) rfl rfl rfl ?_) | ((with_reducible show wpList _ _ _ (Oper.mk _ (Op.load 27 _) _ _ _ (some _) :: _) _ _); refine loadgB (K3) rfl rfl rfl ?_))
          refine (sWY.out _).mono ?_
          rintro e w13 ⟨rfl, hb⟩
          replace K3 := K3.below hb K3.lt
          replace K21 := K21.below hb K21.lt
          replace R1 := Lib.hid (R1.out.below hb)
          replace R2 := Lib.hid (R2.out.below hb)
          replace HB : Hid (Below w.heap.size w w13) := HB.out.trans (hb.mono HB.out.size)
          clear hb
          replace K3 := K3.alloc (.cells (mk 4 W4) 24)
          replace K21 := K21.alloc (.cells (mk 4 W4) 24)
          replace R1 := Lib.hid (R1.out.below ((Below.refl w13.heap.size w13).alloc (Nat.le_refl _) (.cells (mk 4 W4) 24)))
          replace R2 := Lib.hid (R2.out.below ((Below.refl w13.heap.size w13).alloc (Nat.le_refl _) (.cells (mk 4 W4) 24)))
          have K23 := Blk.new w13 4 W4 24
          replace HB : Hid (Below w.heap.size w (w13.alloc (.cells (mk 4 W4) 24))) := HB.out.alloc HB.out.size _
          go_upto_region 22 with fail
          go_cut [211] from 211 to 211 (fun s211 wc => s211 = .bool false ∧ Blk wc b3 16 f 27 ∧ KRow 16 wc (.slice (some ⟨g1, 0, none⟩) n c1) n h ∧ KRow 16 wc (.slice (some ⟨g2, 0, none⟩) n c2) n h ∧ Below w.heap.size w wc)
          case first => as_aux_lemma =>
            have iN := neqR_self W4
            cases hone : one with
            | false =>
              subst hone
              go_wp2_with (first | ((with_reducible show wpList _ _ _ (Oper.mk _ (Op.load 24 _) _ _ _ _ :: _) _ _); refine loadR (K21) rfl rfl rfl ?_) | ((with_reducible show wpList _ _ _ (Oper.mk _ (Op.load 24 _) _ _ _ _ :: _) _ _); refine loadR (K23) rfl rfl rfl ?_) | ((with_reducible show wpList _ _ _ (Oper.mk _ (Op.load 24 _) _ _ _ (some _) :: _) _ _); refine loadgR (K21) rfl rfl rfl ?_) | ((with_reducible show wpList _ _ _ (Oper.mk _ (Op.load 24 _) _ _ _ (some _) :: _) _ _); refine loadgR (K23) rfl rfl rfl ?_))
              go_meet
              case rel => exact ⟨by first | rfl | (simp; omega), K3, R1.out, R2.out, HB.out⟩
            | true =>
              obtain ⟨k, rfl, hk4, hwk⟩ := HD.out hone
              subst hone
              have hk0 : (0 : Int) ≤ (k : Int) := by omega
              have hk5 : (k : Int) < 4 := by omega
              have c0 := K21.cell (i := k) (by omega)
              rw [hwk] at c0
              clear hwk
              go_wp2_with (first | ((with_reducible show wpList _ _ _ (Oper.mk _ (Op.load 24 _) _ _ _ _ :: _) _ _); refine loadR (K21) rfl rfl rfl ?_) | ((with_reducible show wpList _ _ _ (Oper.mk _ (Op.load 24 _) _ _ _ _ :: _) _ _); refine loadR (K23) rfl rfl rfl ?_) | ((with_reducible show wpList _ _ _ (Oper.mk _ (Op.load 24 _) _ _ _ (some _) :: _) _ _); refine loadgR (K21) rfl rfl rfl ?_) | ((with_reducible show wpList _ _ _ (Oper.mk _ (Op.load 24 _) _ _ _ (some _) :: _) _ _); refine loadgR (K23) rfl rfl rfl ?_))
              go_meet
              case rel => exact ⟨by first | rfl | (simp; omega), K3, R1.out, R2.out, HB.out⟩
          case rest =>
            clear K3 R1 R2 HB K21 K23
            obtain ⟨rfl, K3, r1, r2, hb0⟩ := hcut
            have HB := Lib.hid hb0
            have R1 := Lib.hid r1
            have R2 := Lib.hid r2
            clear r1 r2 hb0
            go_wp2_with fail
            refine (drawArisesBy_any a0 len0 cap0 _ hl (HR.out.code.later HB.out)).mono ?_
            rintro e w14 ⟨c, rfl, hb⟩
            replace K3 := K3.below hb K3.lt
            replace R1 := Lib.hid (R1.out.below hb)
            replace R2 := Lib.hid (R2.out.below hb)
            replace HB : Hid (Below w.heap.size w w14) := HB.out.trans (hb.mono HB.out.size)
            clear hb
            replace K3 := K3.alloc (.cells (mk 16 c) 27)
            replace R1 := Lib.hid (R1.out.below ((Below.refl w14.heap.size w14).alloc (Nat.le_refl _) (.cells (mk 16 c) 27)))
            replace R2 := Lib.hid (R2.out.below ((Below.refl w14.heap.size w14).alloc (Nat.le_refl _) (.cells (mk 16 c) 27)))
            have K25 := Blk.new w14 16 c 27
            replace HB : Hid (Below w.heap.size w (w14.alloc (.cells (mk 16 c) 27))) := HB.out.alloc HB.out.size _
            obtain ⟨nA, hnA⟩ : ∃ F, F = arRN c := ⟨_, rfl⟩
            obtain ⟨hA, hhA⟩ : ∃ F, F = fun i => (arRL c).getD i 0 := ⟨_, rfl⟩
            obtain ⟨V5, hV5⟩ : ∃ F, F = vdO c := ⟨_, rfl⟩
            have iAR : Hid (∀ W, Calls Tryz.prog 19 #[.agg (mk 16 c)] W fun e w' => ∃ g c, e = .returned (.tuple #[.slice (some ⟨g, 0, none⟩) nA c, .bool V5]) ∧ CRow w' (.slice (some ⟨g, 0, none⟩) nA c) nA hA ∧ Below W.heap.size W w') := by
              show ∀ W, _; intro W; rw [hnA, hhA, hV5]; exact (implArises_any c W).mono fun e w' ⟨g, q, r1, r2, r3⟩ => ⟨g, q, r1, crow_list r2 (arR_len c), r3⟩
            have sAR : Hid (∀ W, Calls Tryz.prog 20 #[.agg (mk 16 c)] W fun e w' => ∃ g c, e = .returned (.tuple #[.slice (some ⟨g, 0, none⟩) nA c, .bool V5]) ∧ CRow w' (.slice (some ⟨g, 0, none⟩) nA c) nA hA ∧ Below W.heap.size W w') := by
              show ∀ W, _; intro W; rw [hnA, hhA, hV5]; exact (specArises_any c W).mono fun e w' ⟨g, q, r1, r2, r3⟩ => ⟨g, q, r1, crow_list r2 (arR_len c), r3⟩
            have HNA : Hid (nA ≤ 16) := by show _ ≤ _; rw [hnA]; exact arRN_le c
            have HC1 : Hid (∀ i, i < nA → ∃ (Y : Nat → Int) (t : Int), (∀ W, Calls Tryz.prog 26 #[.agg (mk 16 c), .agg (mk 2 fun j => hA (i * 2 + j))] W fun e w' => e = .returned (.tuple #[.agg (mk 16 Y), .int .i64 t, .bool true]) ∧ Below W.heap.size W w') ∧ t ≤ 2 ∧ ∀ W, Calls Tryz.prog 14 #[.agg (mk 16 Y)] W fun e w' => e = .returned (.tuple #[.bool true, .bool true]) ∧ Below W.heap.size W w') := by
              show ∀ i, _
              intro i hi
              rw [hnA] at hi
              rw [hhA]
              obtain ⟨a1, a2, a3, a4⟩ := fb_cell hi
              refine ⟨takeB c fun j => (arRL c).getD (i * 2 + j) 0, takeT c fun j => (arRL c).getD (i * 2 + j) 0, fun W => ?_, a2, fun W => ?_⟩
              · have := implTake_any c (fun j => (arRL c).getD (i * 2 + j) 0) W
                rw [a1] at this
                exact this
              · have := implMade_any (takeB c fun j => (arRL c).getD (i * 2 + j) 0) W
                rw [a3, a4] at this
                exact this
            clear hnA hhA hV5
            go_wp2_with (first | ((with_reducible show wpList _ _ _ (Oper.mk _ (Op.load 27 _) _ _ _ _ :: _) _ _); refine loadB (K25) rfl rfl rfl ?_) | ((with_reducible show wpList _ _ _ (Oper.mk _ (Op.load 27 _) _ _ _ (some _) :: _) _ _); refine loadgB (K25) rfl rfl rfl ?_))
            refine (iAR.out _).mono ?_
            rintro e w15 ⟨g5, c5, rfl, hrow, hb⟩
            replace K3 := K3.below hb K3.lt
            replace K25 := K25.below hb K25.lt
            replace R1 := Lib.hid (R1.out.below hb)
            replace R2 := Lib.hid (R2.out.below hb)
            replace HB : Hid (Below w.heap.size w w15) := HB.out.trans (hb.mono HB.out.size)
            clear hb
            have R5 := Lib.hid hrow
            clear hrow
            go_wp2_with (first | ((with_reducible show wpList _ _ _ (Oper.mk _ (Op.load 27 _) _ _ _ _ :: _) _ _); refine loadB (K25) rfl rfl rfl ?_) | ((with_reducible show wpList _ _ _ (Oper.mk _ (Op.load 27 _) _ _ _ (some _) :: _) _ _); refine loadgB (K25) rfl rfl rfl ?_))
            refine (sAR.out _).mono ?_
            rintro e w16 ⟨g6, c6, rfl, hrow, hb⟩
            replace K3 := K3.below hb K3.lt
            replace K25 := K25.below hb K25.lt
            replace R1 := Lib.hid (R1.out.below hb)
            replace R2 := Lib.hid (R2.out.below hb)
            replace R5 := Lib.hid (R5.out.below hb)
            replace HB : Hid (Below w.heap.size w w16) := HB.out.trans (hb.mono HB.out.size)
            clear hb
            have R6 := Lib.hid hrow
            clear hrow
            generalize w14.heap.size = b25 at *
            go_wp2_with fail
            refine (rCells_yes _ _ nA hA _ R5.out R6.out (by have := HNA.out; omega)).mono ?_
            rintro e w17 ⟨rfl, q17, hq17⟩
            have hb : Below w16.heap.size w16 w17 := by rw [hq17]; exact below_drewN (Below.refl _ _) _
            clear hq17 R6
            replace K3 := K3.below hb K3.lt
            replace K25 := K25.below hb K25.lt
            replace R1 := Lib.hid (R1.out.below hb)
            replace R2 := Lib.hid (R2.out.below hb)
            replace R5 := Lib.hid (R5.out.below hb)
            replace HB : Hid (Below w.heap.size w w17) := HB.out.trans (hb.mono HB.out.size)
            clear hb
            go_wp2_with fail
            refine (drawBackStep_any a0 len0 cap0 _ hl (HR.out.code.later HB.out)).mono ?_
            rintro e w18 ⟨u, ff, kk, rfl, hb⟩
            replace K3 := K3.below hb K3.lt
            replace K25 := K25.below hb K25.lt
            replace R1 := Lib.hid (R1.out.below hb)
            replace R2 := Lib.hid (R2.out.below hb)
            replace R5 := Lib.hid (R5.out.below hb)
            replace HB : Hid (Below w.heap.size w w18) := HB.out.trans (hb.mono HB.out.size)
            clear hb
            replace K3 := K3.alloc (.cells (mk 16 u) 27)
            replace K25 := K25.alloc (.cells (mk 16 u) 27)
            replace R1 := Lib.hid (R1.out.below ((Below.refl w18.heap.size w18).alloc (Nat.le_refl _) (.cells (mk 16 u) 27)))
            replace R2 := Lib.hid (R2.out.below ((Below.refl w18.heap.size w18).alloc (Nat.le_refl _) (.cells (mk 16 u) 27)))
            replace R5 := Lib.hid (R5.out.below ((Below.refl w18.heap.size w18).alloc (Nat.le_refl _) (.cells (mk 16 u) 27)))
            have K30 := Blk.new w18 16 u 27
            replace HB : Hid (Below w.heap.size w (w18.alloc (.cells (mk 16 u) 27))) := HB.out.alloc HB.out.size _
            obtain ⟨BB, hBB⟩ : ∃ F, F = bsB u ff kk := ⟨_, rfl⟩
            obtain ⟨O6, hO6⟩ : ∃ F, F = bsO u ff kk := ⟨_, rfl⟩
            have iBS : Hid (∀ W, Calls Tryz.prog 23 #[.agg (mk 16 u), .int .i64 ff, .int .i64 kk] W fun e w' => e = .returned (.tuple #[.agg (mk 16 BB), .bool O6]) ∧ Below W.heap.size W w') := by show ∀ W, _; rw [hBB, hO6]; exact implBack_any u ff kk
            have sBS : Hid (∀ W, Calls Tryz.prog 24 #[.agg (mk 16 u), .int .i64 ff, .int .i64 kk] W fun e w' => e = .returned (.tuple #[.agg (mk 16 BB), .bool O6]) ∧ Below W.heap.size W w') := by show ∀ W, _; rw [hBB, hO6]; exact specBack_any u ff kk
            have HS6 : Hid (O6 = true → ∃ (X : Nat → Int) (s : Int), (∀ W, Calls Tryz.prog 25 #[.agg (mk 16 BB), .int .i64 ff] W fun e w' => e = .returned (.tuple #[.agg (mk 16 X), .int .i64 s, .bool true]) ∧ Below W.heap.size W w') ∧ sameB X u = true ∧ sameB BB u = false) := by
              show _ → _
              intro hq
              have hb : BsOk u ff kk := of_decide_eq_true (hO6.symm.trans hq)
              obtain ⟨x, hx, e⟩ := bs_in hb
              obtain ⟨a1, a2, a3⟩ := fb_slide (List.mem_of_getElem? hx)
              rw [hBB, e]
              refine ⟨slideRB (fn x) ff, slideRS (fn x) ff, fun W => ?_, a2, a3⟩
              have := implSlide_any (fn x) ff W
              rw [a1] at this
              exact this
            clear hBB hO6
            go_wp2_with (first | ((with_reducible show wpList _ _ _ (Oper.mk _ (Op.load 27 _) _ _ _ _ :: _) _ _); refine loadB (K30) rfl rfl rfl ?_) | ((with_reducible show wpList _ _ _ (Oper.mk _ (Op.load 27 _) _ _ _ (some _) :: _) _ _); refine loadgB (K30) rfl rfl rfl ?_))
            refine (iBS.out _).mono ?_
            rintro e w19 ⟨rfl, hb⟩
            replace K3 := K3.below hb K3.lt
            replace K25 := K25.below hb K25.lt
            replace K30 := K30.below hb K30.lt
            replace R1 := Lib.hid (R1.out.below hb)
            replace R2 := Lib.hid (R2.out.below hb)
            replace R5 := Lib.hid (R5.out.below hb)
            replace HB : Hid (Below w.heap.size w w19) := HB.out.trans (hb.mono HB.out.size)
            clear hb
            replace K3 := K3.alloc (.cells (mk 16 BB) 27)
            replace K25 := K25.alloc (.cells (mk 16 BB) 27)
            replace K30 := K30.alloc (.cells (mk 16 BB) 27)
            replace R1 := Lib.hid (R1.out.below ((Below.refl w19.heap.size w19).alloc (Nat.le_refl _) (.cells (mk 16 BB) 27)))
            replace R2 := Lib.hid (R2.out.below ((Below.refl w19.heap.size w19).alloc (Nat.le_refl _) (.cells (mk 16 BB) 27)))
            replace R5 := Lib.hid (R5.out.below ((Below.refl w19.heap.size w19).alloc (Nat.le_refl _) (.cells (mk 16 BB) 27)))
            have K33 := Blk.new w19 16 BB 27
            replace HB : Hid (Below w.heap.size w (w19.alloc (.cells (mk 16 BB) 27))) := HB.out.alloc HB.out.size _
            go_wp2_with (first | ((with_reducible show wpList _ _ _ (Oper.mk _ (Op.load 27 _) _ _ _ _ :: _) _ _); refine loadB (K30) rfl rfl rfl ?_) | ((with_reducible show wpList _ _ _ (Oper.mk _ (Op.load 27 _) _ _ _ (some _) :: _) _ _); refine loadgB (K30) rfl rfl rfl ?_))
            refine (sBS.out _).mono ?_
            rintro e w20 ⟨rfl, hb⟩
            replace K3 := K3.below hb K3.lt
            replace K25 := K25.below hb K25.lt
            replace K30 := K30.below hb K30.lt
            replace K33 := K33.below hb K33.lt
            replace R1 := Lib.hid (R1.out.below hb)
            replace R2 := Lib.hid (R2.out.below hb)
            replace R5 := Lib.hid (R5.out.below hb)
            replace HB : Hid (Below w.heap.size w w20) := HB.out.trans (hb.mono HB.out.size)
            clear hb
            replace K3 := K3.alloc (.cells (mk 16 BB) 27)
            replace K25 := K25.alloc (.cells (mk 16 BB) 27)
            replace K30 := K30.alloc (.cells (mk 16 BB) 27)
            replace K33 := K33.alloc (.cells (mk 16 BB) 27)
            replace R1 := Lib.hid (R1.out.below ((Below.refl w20.heap.size w20).alloc (Nat.le_refl _) (.cells (mk 16 BB) 27)))
            replace R2 := Lib.hid (R2.out.below ((Below.refl w20.heap.size w20).alloc (Nat.le_refl _) (.cells (mk 16 BB) 27)))
            replace R5 := Lib.hid (R5.out.below ((Below.refl w20.heap.size w20).alloc (Nat.le_refl _) (.cells (mk 16 BB) 27)))
            have K35 := Blk.new w20 16 BB 27
            replace HB : Hid (Below w.heap.size w (w20.alloc (.cells (mk 16 BB) 27))) := HB.out.alloc HB.out.size _
            have iN := neqB_self BB
            go_upto_if 261 with (first | ((with_reducible show wpList _ _ _ (Oper.mk _ (Op.load 27 _) _ _ _ _ :: _) _ _); refine loadB (K33) rfl rfl rfl ?_) | ((with_reducible show wpList _ _ _ (Oper.mk _ (Op.load 27 _) _ _ _ (some _) :: _) _ _); refine loadgB (K33) rfl rfl rfl ?_) | ((with_reducible show wpList _ _ _ (Oper.mk _ (Op.load 27 _) _ _ _ _ :: _) _ _); refine loadB (K35) rfl rfl rfl ?_) | ((with_reducible show wpList _ _ _ (Oper.mk _ (Op.load 27 _) _ _ _ (some _) :: _) _ _); refine loadgB (K35) rfl rfl rfl ?_))
            clear iN
            go_cut [] from 261 to 261 (fun wc => Blk wc b3 16 f 27 ∧ Blk wc b25 16 c 27 ∧ KRow 16 wc (.slice (some ⟨g1, 0, none⟩) n c1) n h ∧ KRow 16 wc (.slice (some ⟨g2, 0, none⟩) n c2) n h ∧ CRow wc (.slice (some ⟨g5, 0, none⟩) nA c5) nA hA ∧ Below w.heap.size w wc)
            case first => as_aux_lemma =>
              cases hO6 : O6 with
              | false =>
                subst hO6
                go_wp2_with fail
                go_meet
                case rel => exact ⟨K3, K25, R1.out, R2.out, R5.out, HB.out⟩
              | true =>
                obtain ⟨X, s6, hX, x1, x2⟩ := HS6.out hO6
                subst hO6
                have iX := Lib.hid hX
                have hx1 := Lib.hid x1
                have hx2 := Lib.hid x2
                clear hX x1 x2
                go_wp2_with (first | ((with_reducible show wpList _ _ _ (Oper.mk _ (Op.load 27 _) _ _ _ _ :: _) _ _); refine loadB (K33) rfl rfl rfl ?_) | ((with_reducible show wpList _ _ _ (Oper.mk _ (Op.load 27 _) _ _ _ (some _) :: _) _ _); refine loadgB (K33) rfl rfl rfl ?_))
                refine (iX.out _).mono ?_
                rintro e w21 ⟨rfl, hb⟩
                replace K3 := K3.below hb K3.lt
                replace K25 := K25.below hb K25.lt
                replace K30 := K30.below hb K30.lt
                replace K33 := K33.below hb K33.lt
                replace R1 := Lib.hid (R1.out.below hb)
                replace R2 := Lib.hid (R2.out.below hb)
                replace R5 := Lib.hid (R5.out.below hb)
                replace HB : Hid (Below w.heap.size w w21) := HB.out.trans (hb.mono HB.out.size)
                clear hb
                replace K3 := K3.alloc (.cells (mk 16 X) 27)
                replace K25 := K25.alloc (.cells (mk 16 X) 27)
                replace K30 := K30.alloc (.cells (mk 16 X) 27)
                replace K33 := K33.alloc (.cells (mk 16 X) 27)
                replace R1 := Lib.hid (R1.out.below ((Below.refl w21.heap.size w21).alloc (Nat.le_refl _) (.cells (mk 16 X) 27)))
                replace R2 := Lib.hid (R2.out.below ((Below.refl w21.heap.size w21).alloc (Nat.le_refl _) (.cells (mk 16 X) 27)))
                replace R5 := Lib.hid (R5.out.below ((Below.refl w21.heap.size w21).alloc (Nat.le_refl _) (.cells (mk 16 X) 27)))
                have K37 := Blk.new w21 16 X 27
                replace HB : Hid (Below w.heap.size w (w21.alloc (.cells (mk 16 X) 27))) := HB.out.alloc HB.out.size _
                have iN : ∀ (w : World), (binOp .neq 27 (.agg (mk 16 X)) (.agg (mk 16 u))).run Tryz.prog w = .ok (.bool false) w := fun w => by rw [neqB, hx1.out]; rfl
                have iE : ∀ (w : World), (Op.equalIn 10000 27 (.agg (mk 16 BB)) (.agg (mk 16 u))).run Tryz.prog w = .ok false w := fun w => by rw [eqB 9996, hx2.out]
                go_wp2_with (first | ((with_reducible show wpList _ _ _ (Oper.mk _ (Op.load 27 _) _ _ _ _ :: _) _ _); refine loadB (K37) rfl rfl rfl ?_) | ((with_reducible show wpList _ _ _ (Oper.mk _ (Op.load 27 _) _ _ _ (some _) :: _) _ _); refine loadgB (K37) rfl rfl rfl ?_) | ((with_reducible show wpList _ _ _ (Oper.mk _ (Op.load 27 _) _ _ _ _ :: _) _ _); refine loadB (K33) rfl rfl rfl ?_) | ((with_reducible show wpList _ _ _ (Oper.mk _ (Op.load 27 _) _ _ _ (some _) :: _) _ _); refine loadgB (K33) rfl rfl rfl ?_) | ((with_reducible show wpList _ _ _ (Oper.mk _ (Op.load 27 _) _ _ _ _ :: _) _ _); refine loadB (K30) rfl rfl rfl ?_) | ((with_reducible show wpList _ _ _ (Oper.mk _ (Op.load 27 _) _ _ _ (some _) :: _) _ _); refine loadgB (K30) rfl rfl rfl ?_))
                go_meet
                case rel => exact ⟨K3, K25, R1.out, R2.out, R5.out, HB.out⟩
            case rest =>
              clear K3 K25 K30 K33 K35 R1 R2 R5 HB HS6 iBS sBS
              obtain ⟨K3, K25, r1, r2, r5, hb0⟩ := hcut
              have HB := Lib.hid hb0
              obtain ⟨_, _, e1, _, C1⟩ := r1
              cases e1
              obtain ⟨_, _, e1, _, C2⟩ := r2
              cases e1
              obtain ⟨_, _, e1, _, C5⟩ := r5
              cases e1
              clear hb0
              go_wp2_with fail
              go_loopg [40] nA (fun gi s40 wr => ∃ i : Nat, i + gi = nA ∧ s40 = .int .i64 i ∧ Blk wr b3 16 f 27 ∧ Blk wr b25 16 c 27 ∧ CAt wr g1 (n * 16) h ∧ CAt wr g2 (n * 16) h ∧ CAt wr g5 (nA * 2) hA ∧ Hid (Below w.heap.size w wr))
              case atStart => exact ⟨0, by omega, rfl, K3, K25, C1, C2, C5, HB⟩
              case round =>
                clear K3 K25 C1 C2 C5 HB
                obtain ⟨i, hig, rfl, K3, K25, C1, C2, C5, HB⟩ := hrel
                cases gk with
                | zero =>
                  have hi : ¬ ((i : Int) < (nA : Int)) := by omega
                  obtain rfl : i = nA := by omega
                  clear K25 C5 hig HC1
                  go_wp2_with fail
                  clear hi
                  go_loopg [46] n (fun gi s46 wr => ∃ i : Nat, i + gi = n ∧ s46 = .int .i64 i ∧ Blk wr b3 16 f 27 ∧ CAt wr g1 (n * 16) h ∧ CAt wr g2 (n * 16) h ∧ Hid (Below w.heap.size w wr))
                  case atStart => exact ⟨0, by omega, rfl, K3, C1, C2, HB⟩
                  case round =>
                    clear K3 C1 C2 HB
                    obtain ⟨i, hig, rfl, K3, C1, C2, HB⟩ := hrel
                    cases gk with
                    | zero =>
                      have hi : ¬ ((i : Int) < (n : Int)) := by omega
                      obtain rfl : i = n := by omega
                      go_wp2_with fail
                      go_ret
                      exact ⟨rfl, HB.out⟩
                    | succ q2 =>
                      have hi : (i : Int) < (n : Int) := by omega
                      have hi0 : (0 : Int) ≤ (i : Int) := by omega
                      have hnL := HNL.out
                      obtain ⟨X, s7, hX, x1, x2⟩ := HS1.out i (by omega)
                      have iXX := Lib.hid hX
                      have hx1 := Lib.hid x1
                      have hx2 := Lib.hid x2
                      clear hX x1 x2
                      go_wp2_with ((with_reducible show wpList _ _ _ (Oper.mk _ (Op.load 27 _) _ _ _ _ :: _) _ _); refine loadAB (C1) (by omega) rfl rfl rfl ?_)
                      refine (iXX.out _).mono ?_
                      rintro e w31 ⟨rfl, hb⟩
                      replace K3 := (K3.below hb K3.lt).alloc (.cells (mk 16 X) 27)
                      replace C1 := (C1.below hb).alloc (.cells (mk 16 X) 27)
                      replace C2 := (C2.below hb).alloc (.cells (mk 16 X) 27)
                      have K47 := Blk.new w31 16 X 27
                      replace HB : Hid (Below w.heap.size w w31) := HB.out.trans (hb.mono HB.out.size)
                      replace HB : Hid (Below w.heap.size w (w31.alloc (.cells (mk 16 X) 27))) := HB.out.alloc HB.out.size _
                      clear hb iXX
                      have iN := neqB_self (fun j => h (i * 16 + j))
                      have iX : ∀ (w : World), (binOp .neq 27 (.agg (mk 16 X)) (.agg (mk 16 f))).run Tryz.prog w = .ok (.bool false) w := fun w => by rw [neqB, hx1.out]; rfl
                      have iE : ∀ (w : World), (Op.equalIn 10000 27 (.agg (mk 16 fun j => h (i * 16 + j))) (.agg (mk 16 f))).run Tryz.prog w = .ok false w := fun w => by rw [eqB 9996, hx2.out]
                      go_wp2_with fail
                      refine wp_region_held_drew (S := fun W => CAt W g1 (n * 16) h ∧ CAt W g2 (n * 16) h ∧ Blk W w31.heap.size 16 X 27 ∧ Blk W b3 16 f 27) (by kernel_rfl) (⟨C1.drew, C2.drew, K47.drew, K3.drew⟩) (fun hHeld => ?_)
                      refine wpAnyH_take (i := 0) (oi := { dst := some 332, op := _, type := _, pos := _, after := _, guard := _ }) (v := .slice (some ⟨g1, 0, none⟩) n c1) rfl (by kernel_rfl) (by kernel_rfl) (by kernel_rfl) (fun _ _ _ h => h) (Or.inl ⟨by rfl, by intro w hSw; clear hSw; go_simp; (try with_reducible rfl)⟩) (by assumption) ?_
                      try simp only [Act.put, List.setIfInBounds_toArray, List.set_cons_zero, List.set_cons_succ]
                      refine wpAnyH_take (i := 1) (oi := { dst := some 333, op := _, type := _, pos := _, after := _, guard := _ }) (v := .int .i64 (i : Int)) rfl (by kernel_rfl) (by kernel_rfl) (by kernel_rfl) (fun _ _ _ h => h) (Or.inl ⟨by rfl, by intro w hSw; clear hSw; go_simp; (try with_reducible rfl)⟩) (by assumption) ?_
                      try simp only [Act.put, List.setIfInBounds_toArray, List.set_cons_zero, List.set_cons_succ]
                      refine wpAnyH_take (i := 2) (oi := { dst := some 334, op := _, type := _, pos := _, after := _, guard := _ }) (v := .pointer (some ⟨g1, i * 16, none⟩)) rfl (by kernel_rfl) (by kernel_rfl) (by kernel_rfl) (fun _ _ _ h => h) (Or.inl ⟨by rfl, by intro w hSw; clear hSw; go_simp; (try with_reducible rfl)⟩) (by assumption) ?_
                      try simp only [Act.put, List.setIfInBounds_toArray, List.set_cons_zero, List.set_cons_succ]
                      refine wpAnyH_take (i := 3) (oi := { dst := some 335, op := _, type := _, pos := _, after := _, guard := _ }) (v := .agg (mk 16 fun j => h (i * 16 + j))) rfl (by kernel_rfl) (by kernel_rfl) (by kernel_rfl) (fun _ _ _ h => h) (Or.inl ⟨by rfl, fun _ q => execAX q.1 (by omega) rfl rfl⟩) (by assumption) ?_
                      try simp only [Act.put, List.setIfInBounds_toArray, List.set_cons_zero, List.set_cons_succ]
                      refine wpAnyH_take (i := 4) (oi := { dst := some 336, op := _, type := _, pos := _, after := _, guard := _ }) (v := .slice (some ⟨g2, 0, none⟩) n c2) rfl (by kernel_rfl) (by kernel_rfl) (by kernel_rfl) (fun _ _ _ h => h) (Or.inl ⟨by rfl, by intro w hSw; clear hSw; go_simp; (try with_reducible rfl)⟩) (by assumption) ?_
                      try simp only [Act.put, List.setIfInBounds_toArray, List.set_cons_zero, List.set_cons_succ]
                      refine wpAnyH_take (i := 5) (oi := { dst := some 337, op := _, type := _, pos := _, after := _, guard := _ }) (v := .int .i64 (i : Int)) rfl (by kernel_rfl) (by kernel_rfl) (by kernel_rfl) (fun _ _ _ h => h) (Or.inl ⟨by rfl, by intro w hSw; clear hSw; go_simp; (try with_reducible rfl)⟩) (by assumption) ?_
                      try simp only [Act.put, List.setIfInBounds_toArray, List.set_cons_zero, List.set_cons_succ]
                      refine wpAnyH_take (i := 6) (oi := { dst := some 338, op := _, type := _, pos := _, after := _, guard := _ }) (v := .pointer (some ⟨g2, i * 16, none⟩)) rfl (by kernel_rfl) (by kernel_rfl) (by kernel_rfl) (fun _ _ _ h => h) (Or.inl ⟨by rfl, by intro w hSw; clear hSw; go_simp; (try with_reducible rfl)⟩) (by assumption) ?_
                      try simp only [Act.put, List.setIfInBounds_toArray, List.set_cons_zero, List.set_cons_succ]
                      refine wpAnyH_take (i := 7) (oi := { dst := some 339, op := _, type := _, pos := _, after := _, guard := _ }) (v := .agg (mk 16 fun j => h (i * 16 + j))) rfl (by kernel_rfl) (by kernel_rfl) (by kernel_rfl) (fun _ _ _ h => h) (Or.inl ⟨by rfl, fun _ q => execAX q.2.1 (by omega) rfl rfl⟩) (by assumption) ?_
                      try simp only [Act.put, List.setIfInBounds_toArray, List.set_cons_zero, List.set_cons_succ]
                      refine wpAnyH_take (i := 8) (oi := { dst := some 340, op := _, type := _, pos := _, after := _, guard := _ }) (v := .bool false) rfl (by kernel_rfl) (by kernel_rfl) (by kernel_rfl) (fun _ _ _ h => h) (Or.inl ⟨by rfl, by intro W hSw; clear hSw; have iN2 := iN W; go_simp⟩) (by assumption) ?_
                      try simp only [Act.put, List.setIfInBounds_toArray, List.set_cons_zero, List.set_cons_succ]
                      refine wpAnyH_take (i := 9) (oi := { dst := some 341, op := _, type := _, pos := _, after := _, guard := _ }) (v := .bool false) rfl (by kernel_rfl) (by kernel_rfl) (by kernel_rfl) (fun _ _ _ h => h) (Or.inl ⟨by rfl, by intro w hSw; clear hSw; go_simp; (try with_reducible rfl)⟩) (by assumption) ?_
                      try simp only [Act.put, List.setIfInBounds_toArray, List.set_cons_zero, List.set_cons_succ]
                      refine wpAnyH_take (i := 10) (oi := { dst := some 342, op := _, type := _, pos := _, after := _, guard := _ }) (v := .bool true) rfl (by kernel_rfl) (by kernel_rfl) (by kernel_rfl) (fun _ _ _ h => h) (Or.inl ⟨by rfl, by intro w hSw; clear hSw; go_simp; (try with_reducible rfl)⟩) (by assumption) ?_
                      try simp only [Act.put, List.setIfInBounds_toArray, List.set_cons_zero, List.set_cons_succ]
                      refine wpAnyH_take (i := 11) (oi := { dst := some 343, op := _, type := _, pos := _, after := _, guard := _ }) (v := .bool false) rfl (by kernel_rfl) (by kernel_rfl) (by kernel_rfl) (fun _ _ _ h => h) (Or.inl ⟨by rfl, by intro w hSw; clear hSw; go_simp; (try with_reducible rfl)⟩) (by assumption) ?_
                      try simp only [Act.put, List.setIfInBounds_toArray, List.set_cons_zero, List.set_cons_succ]
                      refine wpAnyH_take (i := 12) (oi := { dst := some 344, op := _, type := _, pos := _, after := _, guard := _ }) (v := .bool false) rfl (by kernel_rfl) (by kernel_rfl) (by kernel_rfl) (fun _ _ _ h => h) (Or.inl ⟨by rfl, by intro w hSw; clear hSw; go_simp; (try with_reducible rfl)⟩) (by assumption) ?_
                      try simp only [Act.put, List.setIfInBounds_toArray, List.set_cons_zero, List.set_cons_succ]
                      refine wpAnyH_take (i := 13) (oi := { dst := some 345, op := _, type := _, pos := _, after := _, guard := _ }) (v := .bool false) rfl (by kernel_rfl) (by kernel_rfl) (by kernel_rfl) (fun _ _ _ h => h) (Or.inl ⟨by rfl, by intro w hSw; clear hSw; go_simp; (try with_reducible rfl)⟩) (by assumption) ?_
                      try simp only [Act.put, List.setIfInBounds_toArray, List.set_cons_zero, List.set_cons_succ]
                      refine wpAnyH_take (i := 14) (oi := { dst := some 346, op := _, type := _, pos := _, after := _, guard := _ }) (v := .agg (mk 16 X)) rfl (by kernel_rfl) (by kernel_rfl) (by kernel_rfl) (fun _ _ _ h => h) (Or.inl ⟨by rfl, fun _ q => execB q.2.2.1 rfl rfl⟩) (by assumption) ?_
                      try simp only [Act.put, List.setIfInBounds_toArray, List.set_cons_zero, List.set_cons_succ]
                      refine wpAnyH_take (i := 15) (oi := { dst := some 347, op := _, type := _, pos := _, after := _, guard := _ }) (v := .agg (mk 16 f)) rfl (by kernel_rfl) (by kernel_rfl) (by kernel_rfl) (fun _ _ _ h => h) (Or.inl ⟨by rfl, fun _ q => execB q.2.2.2 rfl rfl⟩) (by assumption) ?_
                      try simp only [Act.put, List.setIfInBounds_toArray, List.set_cons_zero, List.set_cons_succ]
                      refine wpAnyH_take (i := 16) (oi := { dst := some 348, op := _, type := _, pos := _, after := _, guard := _ }) (v := .bool false) rfl (by kernel_rfl) (by kernel_rfl) (by kernel_rfl) (fun _ _ _ h => h) (Or.inl ⟨by rfl, by intro W hSw; clear hSw; have iX2 := iX W; go_simp⟩) (by assumption) ?_
                      try simp only [Act.put, List.setIfInBounds_toArray, List.set_cons_zero, List.set_cons_succ]
                      refine wpAnyH_take (i := 17) (oi := { dst := some 349, op := _, type := _, pos := _, after := _, guard := _ }) (v := .bool false) rfl (by kernel_rfl) (by kernel_rfl) (by kernel_rfl) (fun _ _ _ h => h) (Or.inl ⟨by rfl, by intro w hSw; clear hSw; go_simp; (try with_reducible rfl)⟩) (by assumption) ?_
                      try simp only [Act.put, List.setIfInBounds_toArray, List.set_cons_zero, List.set_cons_succ]
                      refine wpAnyH_take (i := 18) (oi := { dst := some 350, op := _, type := _, pos := _, after := _, guard := _ }) (v := .bool false) rfl (by kernel_rfl) (by kernel_rfl) (by kernel_rfl) (fun _ _ _ h => h) (Or.inl ⟨by rfl, by intro w hSw; clear hSw; go_simp; (try with_reducible rfl)⟩) (by assumption) ?_
                      try simp only [Act.put, List.setIfInBounds_toArray, List.set_cons_zero, List.set_cons_succ]
                      refine wpAnyH_take (i := 19) (oi := { dst := some 351, op := _, type := _, pos := _, after := _, guard := _ }) (v := .slice (some ⟨g1, 0, none⟩) n c1) rfl (by kernel_rfl) (by kernel_rfl) (by kernel_rfl) (fun _ _ _ h => h) (Or.inl ⟨by rfl, by intro w hSw; clear hSw; go_simp; (try with_reducible rfl)⟩) (by assumption) ?_
                      try simp only [Act.put, List.setIfInBounds_toArray, List.set_cons_zero, List.set_cons_succ]
                      refine wpAnyH_take (i := 20) (oi := { dst := some 352, op := _, type := _, pos := _, after := _, guard := _ }) (v := .int .i64 (i : Int)) rfl (by kernel_rfl) (by kernel_rfl) (by kernel_rfl) (fun _ _ _ h => h) (Or.inl ⟨by rfl, by intro w hSw; clear hSw; go_simp; (try with_reducible rfl)⟩) (by assumption) ?_
                      try simp only [Act.put, List.setIfInBounds_toArray, List.set_cons_zero, List.set_cons_succ]
                      refine wpAnyH_take (i := 21) (oi := { dst := some 353, op := _, type := _, pos := _, after := _, guard := _ }) (v := .pointer (some ⟨g1, i * 16, none⟩)) rfl (by kernel_rfl) (by kernel_rfl) (by kernel_rfl) (fun _ _ _ h => h) (Or.inl ⟨by rfl, by intro w hSw; clear hSw; go_simp; (try with_reducible rfl)⟩) (by assumption) ?_
                      try simp only [Act.put, List.setIfInBounds_toArray, List.set_cons_zero, List.set_cons_succ]
                      refine wpAnyH_take (i := 22) (oi := { dst := some 354, op := _, type := _, pos := _, after := _, guard := _ }) (v := .agg (mk 16 fun j => h (i * 16 + j))) rfl (by kernel_rfl) (by kernel_rfl) (by kernel_rfl) (fun _ _ _ h => h) (Or.inl ⟨by rfl, fun _ q => execAX q.1 (by omega) rfl rfl⟩) (by assumption) ?_
                      try simp only [Act.put, List.setIfInBounds_toArray, List.set_cons_zero, List.set_cons_succ]
                      refine wpAnyH_take (i := 23) (oi := { dst := some 355, op := _, type := _, pos := _, after := _, guard := _ }) (v := .agg (mk 16 f)) rfl (by kernel_rfl) (by kernel_rfl) (by kernel_rfl) (fun _ _ _ h => h) (Or.inl ⟨by rfl, fun _ q => execB q.2.2.2 rfl rfl⟩) (by assumption) ?_
                      try simp only [Act.put, List.setIfInBounds_toArray, List.set_cons_zero, List.set_cons_succ]
                      refine wpAnyH_take (i := 24) (oi := { dst := some 356, op := _, type := _, pos := _, after := _, guard := _ }) (v := .bool false) rfl (by kernel_rfl) (by kernel_rfl) (by kernel_rfl) (fun _ _ _ h => h) (Or.inl ⟨by rfl, by intro W hSw; clear hSw; have iE2 := iE W; go_simp⟩) (by assumption) ?_
                      try simp only [Act.put, List.setIfInBounds_toArray, List.set_cons_zero, List.set_cons_succ]
                      refine wpAnyH_take (i := 25) (oi := { dst := some 357, op := _, type := _, pos := _, after := _, guard := _ }) (v := .bool false) rfl (by kernel_rfl) (by kernel_rfl) (by kernel_rfl) (fun _ _ _ h => h) (Or.inl ⟨by rfl, by intro w hSw; clear hSw; go_simp; (try with_reducible rfl)⟩) (by assumption) ?_
                      try simp only [Act.put, List.setIfInBounds_toArray, List.set_cons_zero, List.set_cons_succ]
                      refine wpAnyH_done (by kernel_rfl) ?_ _
                      clear hHeld
                      replace K3 := K3.drew
                      replace C1 := C1.drew
                      replace C2 := C2.drew
                      replace HB := Lib.hid HB.out.drew
                      clear K47 iN iX iE
                      cases i with
                      | zero =>
                        have hz : ¬ ((0 : Int) < ((0 : Nat) : Int)) := by omega
                        go_wp2_with fail
                        go_roundg q2
                        case rel => exact ⟨0 + 1, by omega, by go_num, K3, C1, C2, HB⟩
                        case measure => omega
                      | succ k =>
                        have hz : (0 : Int) < ((k + 1 : Nat) : Int) := by omega
                        have hz1 : (0 : Int) < (k : Int) + 1 := by omega
                        have hz2 : (k : Int) + 1 < (n : Int) := by omega
                        have hz3 : (0 : Int) ≤ (k : Int) := by omega
                        have hz4 : (k : Int) < (n : Int) := by omega
                        have hz5 : (0 : Int) ≤ (k : Int) + 1 := by omega
                        have hzw : IntKind.i64.wrap ((k : Int) + 1 - 1) = (k : Int) := by rw [IntWalk.i64_in _ (by omega)]; omega
                        have iL := Lib.hid (HS2.out k (by omega))
                        go_wp2_with fail
                        refine wp_region_held_drew (S := fun W => CAt W g1 (n * 16) h) (by kernel_rfl) (C1.drew) (fun hHeld => ?_)
                        replace K3 := K3.drew
                        replace C1 := C1.drew
                        replace C2 := C2.drew
                        replace HB := Lib.hid HB.out.drew
                        refine wpAnyH_take (i := 0) (oi := { dst := some 361, op := _, type := _, pos := _, after := _, guard := _ }) (v := .slice (some ⟨g1, 0, none⟩) n c1) rfl (by kernel_rfl) (by kernel_rfl) (by kernel_rfl) (fun _ _ _ h => h) (Or.inl ⟨by rfl, by intro w hSw; clear hSw; go_simp; (try with_reducible rfl)⟩) (by assumption) ?_
                        try simp only [Act.put, List.setIfInBounds_toArray, List.set_cons_zero, List.set_cons_succ]
                        refine wpAnyH_take (i := 1) (oi := { dst := some 362, op := _, type := _, pos := _, after := _, guard := _ }) (v := .int .i64 ((k : Int) + 1)) rfl (by kernel_rfl) (by kernel_rfl) (by kernel_rfl) (fun _ _ _ h => h) (Or.inl ⟨by rfl, by intro w hSw; clear hSw; go_simp; (try with_reducible rfl)⟩) (by assumption) ?_
                        try simp only [Act.put, List.setIfInBounds_toArray, List.set_cons_zero, List.set_cons_succ]
                        refine wpAnyH_take (i := 2) (oi := { dst := some 363, op := _, type := _, pos := _, after := _, guard := _ }) (v := .int .i64 (k : Int)) rfl (by kernel_rfl) (by kernel_rfl) (by kernel_rfl) (fun _ _ _ h => h) (Or.inl ⟨by rfl, by intro w hSw; clear hSw; have hkw : IntKind.i64.wrap (k : Int) = (k : Int) := IntWalk.i64_in _ (by omega); go_simp; (try with_reducible rfl)⟩) (by assumption) ?_
                        try simp only [Act.put, List.setIfInBounds_toArray, List.set_cons_zero, List.set_cons_succ]
                        refine wpAnyH_take (i := 3) (oi := { dst := some 364, op := _, type := _, pos := _, after := _, guard := _ }) (v := .pointer (some ⟨g1, k * 16, none⟩)) rfl (by kernel_rfl) (by kernel_rfl) (by kernel_rfl) (fun _ _ _ h => h) (Or.inl ⟨by rfl, by intro w hSw; clear hSw; go_simp; (try with_reducible rfl)⟩) (by assumption) ?_
                        try simp only [Act.put, List.setIfInBounds_toArray, List.set_cons_zero, List.set_cons_succ]
                        refine wpAnyH_take (i := 4) (oi := { dst := some 365, op := _, type := _, pos := _, after := _, guard := _ }) (v := .agg (mk 16 fun j => h (k * 16 + j))) rfl (by kernel_rfl) (by kernel_rfl) (by kernel_rfl) (fun _ _ _ h => h) (Or.inl ⟨by rfl, fun _ q => execAX q (by omega) rfl rfl⟩) (by assumption) ?_
                        try simp only [Act.put, List.setIfInBounds_toArray, List.set_cons_zero, List.set_cons_succ]
                        refine wpAnyH_take (i := 5) (oi := { dst := some 366, op := _, type := _, pos := _, after := _, guard := _ }) (v := .slice (some ⟨g1, 0, none⟩) n c1) rfl (by kernel_rfl) (by kernel_rfl) (by kernel_rfl) (fun _ _ _ h => h) (Or.inl ⟨by rfl, by intro w hSw; clear hSw; go_simp; (try with_reducible rfl)⟩) (by assumption) ?_
                        try simp only [Act.put, List.setIfInBounds_toArray, List.set_cons_zero, List.set_cons_succ]
                        refine wpAnyH_take (i := 6) (oi := { dst := some 367, op := _, type := _, pos := _, after := _, guard := _ }) (v := .int .i64 ((k : Int) + 1)) rfl (by kernel_rfl) (by kernel_rfl) (by kernel_rfl) (fun _ _ _ h => h) (Or.inl ⟨by rfl, by intro w hSw; clear hSw; go_simp; (try with_reducible rfl)⟩) (by assumption) ?_
                        try simp only [Act.put, List.setIfInBounds_toArray, List.set_cons_zero, List.set_cons_succ]
                        refine wpAnyH_take (i := 7) (oi := { dst := some 368, op := _, type := _, pos := _, after := _, guard := _ }) (v := .pointer (some ⟨g1, (k + 1) * 16, none⟩)) rfl (by kernel_rfl) (by kernel_rfl) (by kernel_rfl) (fun _ _ _ h => h) (Or.inl ⟨by rfl, by intro w hSw; clear hSw; go_simp; (try with_reducible rfl)⟩) (by assumption) ?_
                        try simp only [Act.put, List.setIfInBounds_toArray, List.set_cons_zero, List.set_cons_succ]
                        refine wpAnyH_take (i := 8) (oi := { dst := some 369, op := _, type := _, pos := _, after := _, guard := _ }) (v := .agg (mk 16 fun j => h ((k + 1) * 16 + j))) rfl (by kernel_rfl) (by kernel_rfl) (by kernel_rfl) (fun _ _ _ h => h) (Or.inl ⟨by rfl, fun _ q => execAX q (by omega) rfl rfl⟩) (by assumption) ?_
                        try simp only [Act.put, List.setIfInBounds_toArray, List.set_cons_zero, List.set_cons_succ]
                        refine wpAnyH_ready (rs := [9]) (by kernel_rfl) (by simp) ?_
                        refine AllReadyH.cons rfl (fun K hK => ?_) AllReadyH.nil
                        go_simp
                        refine (iL.out _).mono ?_
                        rintro e w33 ⟨rfl, hb⟩
                        replace K3 := K3.below hb K3.lt
                        replace C1 := C1.below hb
                        replace C2 := C2.below hb
                        replace HB : Hid (Below w.heap.size w w33) := HB.out.trans (hb.mono HB.out.size)
                        clear hb hHeld
                        go_wp2_with fail
                        refine hK.out _ _ C1 (fun hHeld => ?_)
                        clear hK K
                        try simp only [Act.put, List.setIfInBounds_toArray, List.set_cons_zero, List.set_cons_succ]
                        refine wpAnyH_take (i := 10) (oi := { dst := some 360, op := _, type := _, pos := _, after := _, guard := _ }) (v := .tuple #[.bool true, .bool true]) rfl (by kernel_rfl) (by kernel_rfl) (by kernel_rfl) (fun _ _ _ h => h) (Or.inl ⟨by rfl, by intro w hSw; clear hSw; go_simp; (try with_reducible rfl)⟩) (by assumption) ?_
                        try simp only [Act.put, List.setIfInBounds_toArray, List.set_cons_zero, List.set_cons_succ]
                        refine wpAnyH_take (i := 11) (oi := { dst := some 371, op := _, type := _, pos := _, after := _, guard := _ }) (v := .bool true) rfl (by kernel_rfl) (by kernel_rfl) (by kernel_rfl) (fun _ _ _ h => h) (Or.inl ⟨by rfl, by intro w hSw; clear hSw; go_simp; (try with_reducible rfl)⟩) (by assumption) ?_
                        try simp only [Act.put, List.setIfInBounds_toArray, List.set_cons_zero, List.set_cons_succ]
                        refine wpAnyH_take (i := 12) (oi := { dst := some 372, op := _, type := _, pos := _, after := _, guard := _ }) (v := .bool true) rfl (by kernel_rfl) (by kernel_rfl) (by kernel_rfl) (fun _ _ _ h => h) (Or.inl ⟨by rfl, by intro w hSw; clear hSw; go_simp; (try with_reducible rfl)⟩) (by assumption) ?_
                        try simp only [Act.put, List.setIfInBounds_toArray, List.set_cons_zero, List.set_cons_succ]
                        refine wpAnyH_take (i := 13) (oi := { dst := some 50, op := _, type := _, pos := _, after := _, guard := _ }) (v := .bool true) rfl (by kernel_rfl) (by kernel_rfl) (by kernel_rfl) (fun _ _ _ h => h) (Or.inl ⟨by rfl, by intro w hSw; clear hSw; go_simp; (try with_reducible rfl)⟩) (by assumption) ?_
                        try simp only [Act.put, List.setIfInBounds_toArray, List.set_cons_zero, List.set_cons_succ]
                        refine wpAnyH_take (i := 14) (oi := { dst := some 51, op := _, type := _, pos := _, after := _, guard := _ }) (v := .bool true) rfl (by kernel_rfl) (by kernel_rfl) (by kernel_rfl) (fun _ _ _ h => h) (Or.inl ⟨by rfl, by intro w hSw; clear hSw; go_simp; (try with_reducible rfl)⟩) (by assumption) ?_
                        try simp only [Act.put, List.setIfInBounds_toArray, List.set_cons_zero, List.set_cons_succ]
                        refine wpAnyH_done (by kernel_rfl) ?_ _
                        clear hHeld
                        go_wp2_with fail
                        go_roundg q2
                        case rel => exact ⟨k + 1 + 1, by omega, by go_num, K3, C1, C2, HB⟩
                        case measure => omega
                | succ q1 =>
                  have hi : (i : Int) < (nA : Int) := by omega
                  have hi0 : (0 : Int) ≤ (i : Int) := by omega
                  have hnA := HNA.out
                  obtain ⟨Y, t, hY, ht2, hMd⟩ := HC1.out i (by omega)
                  have iY := Lib.hid hY
                  have iM := Lib.hid hMd
                  have HT2 := Lib.hid ht2
                  clear hY hMd ht2
                  go_wp2_with fail
                  refine wp_region_held_drew (S := fun W => Blk W b25 16 c 27 ∧ CAt W g5 (nA * 2) hA) (by kernel_rfl) (⟨K25.drew, C5.drew⟩) (fun hHeld => ?_)
                  replace K25 : Blk wr.drew b25 16 c 27 := K25.drew
                  replace C5 : CAt wr.drew g5 (nA * 2) hA := C5.drew
                  have BX : Hid (Below wr.heap.size wr wr.drew) := (Below.refl _ wr).drew
                  generalize wr.drew = x0 at *
                  refine wpAnyH_take (i := 0) (oi := { dst := some 288, op := _, type := _, pos := _, after := _, guard := _ }) (v := .agg (mk 16 c)) rfl (by kernel_rfl) (by kernel_rfl) (by kernel_rfl) (fun _ _ _ h => h) (Or.inl ⟨by rfl, fun _ q => execB q.1 rfl rfl⟩) (by assumption) ?_
                  try simp only [Act.put, List.setIfInBounds_toArray, List.set_cons_zero, List.set_cons_succ]
                  refine wpAnyH_take (i := 1) (oi := { dst := some 289, op := _, type := _, pos := _, after := _, guard := _ }) (v := .slice (some ⟨g5, 0, none⟩) nA c5) rfl (by kernel_rfl) (by kernel_rfl) (by kernel_rfl) (fun _ _ _ h => h) (Or.inl ⟨by rfl, by intro w hSw; clear hSw; go_simp; (try with_reducible rfl)⟩) (by assumption) ?_
                  try simp only [Act.put, List.setIfInBounds_toArray, List.set_cons_zero, List.set_cons_succ]
                  refine wpAnyH_take (i := 2) (oi := { dst := some 290, op := _, type := _, pos := _, after := _, guard := _ }) (v := .int .i64 (i : Int)) rfl (by kernel_rfl) (by kernel_rfl) (by kernel_rfl) (fun _ _ _ h => h) (Or.inl ⟨by rfl, by intro w hSw; clear hSw; go_simp; (try with_reducible rfl)⟩) (by assumption) ?_
                  try simp only [Act.put, List.setIfInBounds_toArray, List.set_cons_zero, List.set_cons_succ]
                  refine wpAnyH_take (i := 3) (oi := { dst := some 291, op := _, type := _, pos := _, after := _, guard := _ }) (v := .pointer (some ⟨g5, i * 2, none⟩)) rfl (by kernel_rfl) (by kernel_rfl) (by kernel_rfl) (fun _ _ _ h => h) (Or.inl ⟨by rfl, by intro w hSw; clear hSw; go_simp; (try with_reducible rfl)⟩) (by assumption) ?_
                  try simp only [Act.put, List.setIfInBounds_toArray, List.set_cons_zero, List.set_cons_succ]
                  refine wpAnyH_take (i := 4) (oi := { dst := some 292, op := _, type := _, pos := _, after := _, guard := _ }) (v := .agg (mk 2 fun j => hA (i * 2 + j))) rfl (by kernel_rfl) (by kernel_rfl) (by kernel_rfl) (fun _ _ _ h => h) (Or.inl ⟨by rfl, fun _ q => execAE q.2 (by omega) rfl rfl⟩) (by assumption) ?_
                  try simp only [Act.put, List.setIfInBounds_toArray, List.set_cons_zero, List.set_cons_succ]
                  refine wpAnyH_ready (rs := [5, 10]) (by kernel_rfl) (by simp) ?_
                  refine AllReadyH.cons rfl (fun K hK => ?_) ?_
                  · go_simp
                    refine (iY.out _).mono ?_
                    rintro e x1 ⟨rfl, hb⟩
                    have C5 := C5.below hb
                    have K25 := K25.below hb K25.lt
                    have BX : Hid (Below wr.heap.size wr x1) := BX.out.trans (hb.mono BX.out.size)
                    clear hb hHeld
                    go_wp2_with fail
                    refine hK.out _ _ ⟨K25, C5⟩ (fun hHeld => ?_)
                    clear hK K
                    try simp only [Act.put, List.setIfInBounds_toArray, List.set_cons_zero, List.set_cons_succ]
                    refine wpAnyH_take (i := 6) (oi := { dst := some 287, op := _, type := _, pos := _, after := _, guard := _ }) (v := .tuple #[.agg (mk 16 Y), .int .i64 t, .bool true]) rfl (by kernel_rfl) (by kernel_rfl) (by kernel_rfl) (fun _ _ _ h => h) (Or.inl ⟨by rfl, by intro w hSw; clear hSw; go_simp; (try with_reducible rfl)⟩) (by assumption) ?_
                    try simp only [Act.put, List.setIfInBounds_toArray, List.set_cons_zero, List.set_cons_succ]
                    refine wpAnyH_take (i := 7) (oi := { dst := some 294, op := _, type := _, pos := _, after := _, guard := _ }) (v := .agg (mk 16 Y)) rfl (by kernel_rfl) (by kernel_rfl) (by kernel_rfl) (fun _ _ _ h => h) (Or.inl ⟨by rfl, by intro w hSw; clear hSw; go_simp; (try with_reducible rfl)⟩) (by assumption) ?_
                    try simp only [Act.put, List.setIfInBounds_toArray, List.set_cons_zero, List.set_cons_succ]
                    refine wpAnyH_take (i := 8) (oi := { dst := some 295, op := _, type := _, pos := _, after := _, guard := _ }) (v := .int .i64 t) rfl (by kernel_rfl) (by kernel_rfl) (by kernel_rfl) (fun _ _ _ h => h) (Or.inl ⟨by rfl, by intro w hSw; clear hSw; go_simp; (try with_reducible rfl)⟩) (by assumption) ?_
                    try simp only [Act.put, List.setIfInBounds_toArray, List.set_cons_zero, List.set_cons_succ]
                    refine wpAnyH_take (i := 9) (oi := { dst := some 296, op := _, type := _, pos := _, after := _, guard := _ }) (v := .bool true) rfl (by kernel_rfl) (by kernel_rfl) (by kernel_rfl) (fun _ _ _ h => h) (Or.inl ⟨by rfl, by intro w hSw; clear hSw; go_simp; (try with_reducible rfl)⟩) (by assumption) ?_
                    try simp only [Act.put, List.setIfInBounds_toArray, List.set_cons_zero, List.set_cons_succ]
                    refine wpAnyH_ready (rs := [10]) (by kernel_rfl) (by simp) ?_
                    refine AllReadyH.cons rfl (fun K hK => ?_) AllReadyH.nil
                    rw [if_pos (by rfl)]
                    refine wp_allocXB rfl ?_
                    have K8 := Blk.new x1 16 (fun _ => 0) 27
                    have HB8 : Hid (wr.heap.size ≤ x1.heap.size) := BX.out.size
                    have HB9 : Hid (b25 < x1.heap.size ∧ g5 < x1.heap.size) := ⟨K25.lt, C5.1⟩
                    have K25 := K25.alloc (.cells (mk 16 fun _ => 0) 27)
                    have C5 := C5.alloc (.cells (mk 16 fun _ => 0) 27)
                    have BX : Hid (Below wr.heap.size wr (x1.alloc (.cells (mk 16 fun _ => 0) 27))) := BX.out.alloc BX.out.size _
                    clear hHeld
                    generalize x1.alloc (.cells (mk 16 fun _ => 0) 27) = x2 at *
                    generalize x1.heap.size = b8 at *
                    refine hK.out _ _ ⟨K25, C5⟩ (fun hHeld => ?_)
                    clear hK K
                    try simp only [Act.put, List.setIfInBounds_toArray, List.set_cons_zero, List.set_cons_succ]
                    refine wpAnyH_ready (rs := [11]) (by kernel_rfl) (by simp) ?_
                    refine AllReadyH.cons rfl (fun K hK => ?_) AllReadyH.nil
                    have st1 := run_store_blk (P := Tryz.prog) (g := Y) K8
                    have ms1 : (mk 16 Y).size = 16 := mk_size 16 _
                    go_simp
                    clear st1 ms1
                    have K25 := K25.rowOther b8 (mk 16 Y) (by have := HB9.out.1; omega)
                    have C5 := C5.rowOther b8 (mk 16 Y) (by have := HB9.out.2; omega)
                    have BX : Hid (Below wr.heap.size wr (x2.setRow b8 (mk 16 Y))) := below_setRow BX.out HB8.out _
                    have K8 := K8.row 16 Y
                    clear hHeld
                    generalize x2.setRow b8 (mk 16 Y) = x3 at *
                    refine hK.out _ _ ⟨K25, C5⟩ (fun hHeld => ?_)
                    clear hK K
                    try simp only [Act.put, List.setIfInBounds_toArray, List.set_cons_zero, List.set_cons_succ]
                    refine wpAnyH_take (i := 12) (oi := { dst := some 42, op := _, type := _, pos := _, after := _, guard := _ }) (v := .int .i64 t) rfl (by kernel_rfl) (by kernel_rfl) (by kernel_rfl) (fun _ _ _ h => h) (Or.inl ⟨by rfl, by intro w hSw; clear hSw; go_simp; (try with_reducible rfl)⟩) (by assumption) ?_
                    try simp only [Act.put, List.setIfInBounds_toArray, List.set_cons_zero, List.set_cons_succ]
                    refine wpAnyH_take (i := 13) (oi := { dst := some 43, op := _, type := _, pos := _, after := _, guard := _ }) (v := .bool true) rfl (by kernel_rfl) (by kernel_rfl) (by kernel_rfl) (fun _ _ _ h => h) (Or.inl ⟨by rfl, by intro w hSw; clear hSw; go_simp; (try with_reducible rfl)⟩) (by assumption) ?_
                    try simp only [Act.put, List.setIfInBounds_toArray, List.set_cons_zero, List.set_cons_succ]
                    refine wpAnyH_done (by kernel_rfl) ?_ _
                    clear hHeld
                    replace K3 := K3.below BX.out K3.lt
                    replace C1 := C1.below BX.out
                    replace C2 := C2.below BX.out
                    replace HB : Hid (Below w.heap.size w x3) := HB.out.trans (BX.out.mono HB.out.size)
                    clear BX
                    go_wp2_with ((with_reducible show wpList _ _ _ (Oper.mk _ (Op.load 27 _) _ _ _ _ :: _) _ _); refine loadB (K8) rfl rfl rfl ?_)
                    refine (iM.out _).mono ?_
                    rintro e w30 ⟨rfl, hb⟩
                    replace K3 := K3.below hb K3.lt
                    replace K25 := K25.below hb K25.lt
                    replace C1 := C1.below hb
                    replace C2 := C2.below hb
                    replace C5 := C5.below hb
                    replace HB : Hid (Below w.heap.size w w30) := HB.out.trans (hb.mono HB.out.size)
                    clear hb K8
                    have ht2 : ¬ (2 < t) := by have := HT2.out; omega
                    go_wp2_with fail
                    go_roundg q1
                    case rel => exact ⟨i + 1, by omega, by go_num, K3, K25, C1, C2, C5, HB⟩
                    case measure => omega
                  refine AllReadyH.cons rfl (fun K hK => ?_) AllReadyH.nil
                  rw [if_pos (by rfl)]
                  refine wp_allocXB rfl ?_
                  have K8 := Blk.new x0 16 (fun _ => 0) 27
                  have HB8 : Hid (wr.heap.size ≤ x0.heap.size) := BX.out.size
                  have HB9 : Hid (b25 < x0.heap.size ∧ g5 < x0.heap.size) := ⟨K25.lt, C5.1⟩
                  have K25 := K25.alloc (.cells (mk 16 fun _ => 0) 27)
                  have C5 := C5.alloc (.cells (mk 16 fun _ => 0) 27)
                  have BX : Hid (Below wr.heap.size wr (x0.alloc (.cells (mk 16 fun _ => 0) 27))) := BX.out.alloc BX.out.size _
                  clear hHeld
                  generalize x0.alloc (.cells (mk 16 fun _ => 0) 27) = x1 at *
                  generalize x0.heap.size = b8 at *
                  refine hK.out _ _ ⟨K25, C5⟩ (fun hHeld => ?_)
                  clear hK K
                  try simp only [Act.put, List.setIfInBounds_toArray, List.set_cons_zero, List.set_cons_succ]
                  refine wpAnyH_ready (rs := [5]) (by kernel_rfl) (by simp) ?_
                  refine AllReadyH.cons rfl (fun K hK => ?_) AllReadyH.nil
                  go_simp
                  refine (iY.out _).mono ?_
                  rintro e x2 ⟨rfl, hb⟩
                  have C5 := C5.below hb
                  have K25 := K25.below hb K25.lt
                  have BX : Hid (Below wr.heap.size wr x2) := BX.out.trans (hb.mono BX.out.size)
                  have K8 := K8.below hb K8.lt
                  clear hb hHeld
                  go_wp2_with fail
                  refine hK.out _ _ ⟨K25, C5⟩ (fun hHeld => ?_)
                  clear hK K
                  try simp only [Act.put, List.setIfInBounds_toArray, List.set_cons_zero, List.set_cons_succ]
                  refine wpAnyH_take (i := 6) (oi := { dst := some 287, op := _, type := _, pos := _, after := _, guard := _ }) (v := .tuple #[.agg (mk 16 Y), .int .i64 t, .bool true]) rfl (by kernel_rfl) (by kernel_rfl) (by kernel_rfl) (fun _ _ _ h => h) (Or.inl ⟨by rfl, by intro w hSw; clear hSw; go_simp; (try with_reducible rfl)⟩) (by assumption) ?_
                  try simp only [Act.put, List.setIfInBounds_toArray, List.set_cons_zero, List.set_cons_succ]
                  refine wpAnyH_take (i := 7) (oi := { dst := some 294, op := _, type := _, pos := _, after := _, guard := _ }) (v := .agg (mk 16 Y)) rfl (by kernel_rfl) (by kernel_rfl) (by kernel_rfl) (fun _ _ _ h => h) (Or.inl ⟨by rfl, by intro w hSw; clear hSw; go_simp; (try with_reducible rfl)⟩) (by assumption) ?_
                  try simp only [Act.put, List.setIfInBounds_toArray, List.set_cons_zero, List.set_cons_succ]
                  refine wpAnyH_take (i := 8) (oi := { dst := some 295, op := _, type := _, pos := _, after := _, guard := _ }) (v := .int .i64 t) rfl (by kernel_rfl) (by kernel_rfl) (by kernel_rfl) (fun _ _ _ h => h) (Or.inl ⟨by rfl, by intro w hSw; clear hSw; go_simp; (try with_reducible rfl)⟩) (by assumption) ?_
                  try simp only [Act.put, List.setIfInBounds_toArray, List.set_cons_zero, List.set_cons_succ]
                  refine wpAnyH_take (i := 9) (oi := { dst := some 296, op := _, type := _, pos := _, after := _, guard := _ }) (v := .bool true) rfl (by kernel_rfl) (by kernel_rfl) (by kernel_rfl) (fun _ _ _ h => h) (Or.inl ⟨by rfl, by intro w hSw; clear hSw; go_simp; (try with_reducible rfl)⟩) (by assumption) ?_
                  try simp only [Act.put, List.setIfInBounds_toArray, List.set_cons_zero, List.set_cons_succ]
                  refine wpAnyH_ready (rs := [11]) (by kernel_rfl) (by simp) ?_
                  refine AllReadyH.cons rfl (fun K hK => ?_) AllReadyH.nil
                  have st1 := run_store_blk (P := Tryz.prog) (g := Y) K8
                  have ms1 : (mk 16 Y).size = 16 := mk_size 16 _
                  go_simp
                  clear st1 ms1
                  have K25 := K25.rowOther b8 (mk 16 Y) (by have := HB9.out.1; omega)
                  have C5 := C5.rowOther b8 (mk 16 Y) (by have := HB9.out.2; omega)
                  have BX : Hid (Below wr.heap.size wr (x2.setRow b8 (mk 16 Y))) := below_setRow BX.out HB8.out _
                  have K8 := K8.row 16 Y
                  clear hHeld
                  generalize x2.setRow b8 (mk 16 Y) = x3 at *
                  refine hK.out _ _ ⟨K25, C5⟩ (fun hHeld => ?_)
                  clear hK K
                  try simp only [Act.put, List.setIfInBounds_toArray, List.set_cons_zero, List.set_cons_succ]
                  refine wpAnyH_take (i := 12) (oi := { dst := some 42, op := _, type := _, pos := _, after := _, guard := _ }) (v := .int .i64 t) rfl (by kernel_rfl) (by kernel_rfl) (by kernel_rfl) (fun _ _ _ h => h) (Or.inl ⟨by rfl, by intro w hSw; clear hSw; go_simp; (try with_reducible rfl)⟩) (by assumption) ?_
                  try simp only [Act.put, List.setIfInBounds_toArray, List.set_cons_zero, List.set_cons_succ]
                  refine wpAnyH_take (i := 13) (oi := { dst := some 43, op := _, type := _, pos := _, after := _, guard := _ }) (v := .bool true) rfl (by kernel_rfl) (by kernel_rfl) (by kernel_rfl) (fun _ _ _ h => h) (Or.inl ⟨by rfl, by intro w hSw; clear hSw; go_simp; (try with_reducible rfl)⟩) (by assumption) ?_
                  try simp only [Act.put, List.setIfInBounds_toArray, List.set_cons_zero, List.set_cons_succ]
                  refine wpAnyH_done (by kernel_rfl) ?_ _
                  clear hHeld
                  replace K3 := K3.below BX.out K3.lt
                  replace C1 := C1.below BX.out
                  replace C2 := C2.below BX.out
                  replace HB : Hid (Below w.heap.size w x3) := HB.out.trans (BX.out.mono HB.out.size)
                  clear BX
                  go_wp2_with ((with_reducible show wpList _ _ _ (Oper.mk _ (Op.load 27 _) _ _ _ _ :: _) _ _); refine loadB (K8) rfl rfl rfl ?_)
                  refine (iM.out _).mono ?_
                  rintro e w30 ⟨rfl, hb⟩
                  replace K3 := K3.below hb K3.lt
                  replace K25 := K25.below hb K25.lt
                  replace C1 := C1.below hb
                  replace C2 := C2.below hb
                  replace C5 := C5.below hb
                  replace HB : Hid (Below w.heap.size w w30) := HB.out.trans (hb.mono HB.out.size)
                  clear hb K8
                  have ht2 : ¬ (2 < t) := by have := HT2.out; omega
                  go_wp2_with fail
                  go_roundg q1
                  case rel => exact ⟨i + 1, by omega, by go_num, K3, K25, C1, C2, C5, HB⟩
                  case measure => omega
  · have dl : decide ((65536 : Int) < (len0 : Int)) = true := by simp; omega
    go_enter Tryz.func3, Tryz.ntmps3
    go_wp2_with fail
    refine (rBig_any a0 len0 cap0 _).mono ?_
    rintro e w' ⟨rfl, rfl⟩
    rw [dl]
    go_wp2_with fail
    go_ret
    exact ⟨rfl, HB.out⟩

noncomputable def laidWorld (os : Os) : World := World.holding Tryz.prog os ⟨#[], #[], []⟩
theorem laid_met (os : Os) : laidMet Tryz.prog Rows.fnBackRow.laid ((laidWorld os).forCall (fun _ _ => 0) ⟨#[], #[.slice none 0 0], []⟩).memory := laidMet_of_run' 8 (by kernel_rfl) (by kernel_rfl)
theorem reads (os : Os) {H : Type} (enc : TypeId × Value → H) : ∃ places, DataW.whole enc Tryz.prog ((laidWorld os).forCall (fun _ _ => 0) ⟨#[], #[.slice none 0 0], []⟩).memory Tryz.f3.params.toList Rows.fnBackSpec.vars false #[.slice none 0 0].toList 8 = some ([.nil], [], places) :=
  ⟨[], by kernel_rfl⟩
set_option linter.unusedVariables false in
set_option maxRecDepth 100000 in
theorem lifted (os : Os) (started : os.Started) (H : Type) (enc : TypeId × Value → H) (F : Stop.Interp) :
    ReturnsInHanded {} Tryz.checked os 3 .any ((OpenSpec.ofChange Rows.fnBackSpec).preRow enc Tryz.prog Tryz.f3 Rows.fnBackRow.domain false Rows.fnBackRow.laid) (((OpenSpec.ofChange Rows.fnBackSpec).at F).post enc Tryz.prog Tryz.f3 false true false false) := by
  obtain ⟨places, hx⟩ := reads os enc
  refine returnsInHanded_of_row (C := Tryz.checked) (s := (OpenSpec.ofChange Rows.fnBackSpec)) own started (by kernel_rfl) Tryz.func3
    (witness_row_at (enc := enc) (C := Tryz.checked) false (laidWorld os) #[.slice none 0 0] rfl (by kernel_rfl) (by kernel_rfl) (by kernel_rfl)
      (OpenSpec.preRow_of_cond 8 hx (by kernel_rfl) (fun k hk => by cases hk) (by kernel_rfl) (laid_met os))) ?_
  intro W base args ds gs before hval0 hW _ hcond hsz hL hsh _
  have hval : ∀ (j : Nat) t v, Tryz.f3.params[j]? = some t → args[j]? = some v → Value.okWide Tryz.prog W .any base t v := hval0
  have hW' := hW
  obtain ⟨p, q, hA0, hV, rfl, hfz, hnd⟩ := hW
  have hA : DataW.TrodAll enc Tryz.prog W 0 (fun _ => true) true Tryz.f3.params.toList args.toList ds p := hA0
  rw [Tryz.params3] at hA hval
  obtain ⟨v0, vs0, d0, ds0, p0, q0, hargs, rfl, rfl, h0, r0⟩ := trodAll_cons hA
  obtain ⟨rfl, rfl, rfl⟩ := trodAll_nil r0
  obtain rfl : args = #[v0] := by cases args; simp_all
  obtain ⟨rfl, rfl⟩ := trodVars_none hV
  obtain ⟨a0, len0, cap0, rfl⟩ := okWide_slice Tryz.underlying22 (hval 0 22 v0 rfl rfl)
  have k0 := h0
  have lt0 : ∀ x ∈ p0, x.block < W.heap.size := by obtain ⟨m, hm⟩ := k0; exact DataW.trod_lt m _ _ _ hm
  obtain ⟨z0, w0⟩ : ∃ zs, IsRow .u8 W a0 len0 cap0 zs := by
    obtain ⟨fuel, hf⟩ := h0
    rcases open_ints Tryz.underlying22 Tryz.underlying5 (by kernel_rfl) hf with ⟨hcs, _⟩ | ⟨x, l, c, zs, hcs, _, hl, hm, hz, _, hcell, hwz⟩
    · simp [Value.cells] at hcs; obtain ⟨rfl, rfl, rfl⟩ := hcs; exact ⟨[], .inl ⟨rfl, rfl, rfl, rfl⟩⟩
    · simp [Value.cells] at hcs; obtain ⟨rfl, rfl, rfl⟩ := hcs; exact ⟨zs, .inr ⟨_, rfl, hl, hm, by simpa using hz, hcell, hwz⟩⟩
  clear hA0 hval0
  have hwalk : Calls Tryz.prog 3 #[.slice a0 len0 cap0] W fun e w' => e = .returned (.bool true) ∧ Below W.heap.size W w' := walk W hsh a0 len0 cap0 z0 w0
  refine hwalk.mono fun e W' ⟨he, bel⟩ => ?_
  subst he
  exact ⟨_, rfl, _, _, _, [], _, [], hW', trodAll_mk1 (shut_bool Tryz.underlying4 _), (trodAll_cons_mk (Below.trod laidOut (by kernel_rfl) (of_decide_eq_true (by kernel_rfl)) k0 bel lt0) trodAll_mk0), rfl, bel.frame _, fun h => by cases h⟩
theorem closed : joinedFacts Tryz.pinned.checked.prog 3 Tryz.f3 ((OpenSpec.ofChange Rows.fnBackSpec)).bare Rows.fnBackRow = true := by
  unfold joinedFacts
  repeat' with_reducible refine and_mk ?_ ?_
  case refine_1.refine_1.refine_1.refine_1.refine_1.refine_1.refine_2 => exact enters
  case refine_1.refine_1.refine_1.refine_1.refine_1.refine_2 => exact (show (Rows.fnBackRow.lifted == Tryz.prog.liftsFinal) = true by rw [final_no]; rfl)
  case refine_1.refine_1.refine_1.refine_1.refine_2 => exact (show (Tryz.prog.make == some Rows.fnBackRow.make) = true by rw [make_cut]; rfl)
  case refine_1.refine_1.refine_1.refine_1.refine_1.refine_1.refine_1.refine_1.refine_1.refine_1.refine_1.refine_1.refine_1.refine_1.refine_1.refine_1.refine_1.refine_1.refine_1.refine_1.refine_1.refine_1.refine_1.refine_1.refine_1.refine_1.refine_1.refine_1.refine_1.refine_1.refine_2 => exact laidOut
  case refine_1.refine_1.refine_1.refine_1.refine_1.refine_1.refine_1.refine_1.refine_1.refine_1.refine_1.refine_1.refine_1.refine_1.refine_1.refine_1.refine_1.refine_1.refine_1.refine_1.refine_1.refine_1.refine_1.refine_1.refine_1.refine_1.refine_1.refine_1.refine_1.refine_2 => exact maps_rowed
  case refine_1.refine_1.refine_1.refine_1.refine_1.refine_1.refine_1.refine_2 => exact stops_heard
  all_goals (as_aux_lemma => kernel_rfl)
theorem proved : Rows.FnBackSaid :=
  OpenClaim.holds_of_cond 3 Tryz.f3 rfl rfl rfl rfl rfl rfl rfl ⟨rfl, rfl, rfl, rfl, rfl⟩ rfl rfl rfl rfl rfl (by kernel_rfl) Tryz.func3 closed
    (of_decide_eq_true (by kernel_rfl)) (by unfold Func.isWrapper; first | (rw [if_pos (by decide +kernel)]; kernel_rfl) | (rw [if_neg (by decide +kernel)]; exact ⟨rfl, rfl⟩))
    (fun os started H enc _ F => by rw [OpenClaim.pre_eq_preRow]; exact lifted os started H enc F)
#print axioms proved
end Go.Proofs.YtmcmpedmgibmkabGreat.fnBack
