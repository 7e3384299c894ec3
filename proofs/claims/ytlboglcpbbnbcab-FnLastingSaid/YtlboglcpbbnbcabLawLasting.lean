/-
  Proved: for every code, the law FnLasting returns true, and the code reads as it did. No condition.
-/
import Derived.Test.YtlboglcpbbnbcabDrawWorstA
import Derived.Test.YtlboglcpbbnbcabLastFacts
import Derived.Test.YtlboglcpbbnbcabSpecDead
import Derived.Test.YtlboglcpbbnbcabImplDead
import Derived.Test.YtlboglcpbbnbcabImplSlideBoard
import Derived.Test.YtlboglcpbbnbcabBaseA
import Derived.Test.YtlboglcpbbnbcabClosed
import Derived.Deep.CutRange
namespace Go.Proofs.Ytlboglcpbbnbcab.fnLasting
open Go.ChangeShapes Go.WideShapes Go.ChangeAt Go.RowKit Plain
attribute [local go_sem] store_new
set_option linter.unusedSimpArgs false
set_option linter.unusedVariables false
theorem neqB_self (f : Nat → Int) (w : World) : (binOp .neq 29 (.agg (mk 16 f)) (.agg (mk 16 f))).run Try.prog w = .ok (.bool false) w := by
  rw [neqB, sameB_iff.2 fun _ _ => rfl]; rfl
theorem eqA3 (d : Nat) (f : Nat → Int) (w : World) : (Op.equalIn (d + 2) 70 (.agg (mk 3 f)) (.agg (mk 3 f))).run Try.prog w = .ok true w := by
  cases hq : Try.prog.info? 3 with
  | none => have := size1; simp [hq] at this
  | some i =>
    rw [run_equalIn_array w (d + 1) (mk 3 f) (mk 3 f) Try.underlying70 hq, cells1]
    refine (items_all _ _ _ _ _ _ (fun c => .int .i64 (f c)) (fun c => .int .i64 (f c)) (fun c => f c == f c) _ fun c hc => ?_).trans ?_
    · have hc4 : c < 3 := List.mem_range.1 hc
      exact ⟨part_int Try.underlying3 f hc4 w, part_int Try.underlying3 f hc4 w, run_equalIn_int w d _ _ _ _ _ Try.underlying3⟩
    · simp
theorem neqA_self (f : Nat → Int) (w : World) : (binOp .neq 70 (.agg (mk 3 f)) (.agg (mk 3 f))).run Try.prog w = .ok (.bool false) w := by
  rw [run_neq_struct, eqA3 9998]; rfl
theorem krow_at {w : World} {g c n : Nat} {h : Nat → Int} (hr : KRow 3 w (.slice (some ⟨g, 0, none⟩) n c) n h) : CAt w g (n * 3) h ∧ True := by
  obtain ⟨_, _, e1, _, hc⟩ := hr
  cases e1
  exact ⟨hc, trivial⟩
theorem irow_list8 {w : World} {b g c : Nat} {L : List Int} (ho : OwnsInts w b (.slice (some ⟨g, 0, none⟩) L.length c) L) : IRow w (.slice (some ⟨g, 0, none⟩) L.length c) L.length (fun i => L.getD i 0) := by
  unfold OwnsInts at ho
  rw [ints_mk] at ho
  exact IRow.of_own ho
theorem below_drewN8 {w a : World} (h : Below w.heap.size w a) (n : Nat) : Below w.heap.size w (a.drewN n) := ⟨h.os, h.tape, h.output, h.size, h.block⟩
theorem wp_allocXB {w : World} {o : Oper} {a : Act} {K : Act → World → Prop} {Q : Exit → Act → World → Prop} (ho : o.op = .alloc 29)
    (h : K (a.put o.dst (.pointer (some ⟨w.heap.size, 0, none⟩))) (w.alloc (.cells (mk 16 fun _ => 0) 29))) : o.wp Try.prog a w K Q := by
  have z16 := zero16
  unfold Oper.wp
  go_simp
  exact h
theorem wp_allocA8 {w : World} {o : Oper} {a : Act} {K : Act → World → Prop} {Q : Exit → Act → World → Prop} (ho : o.op = .alloc 70)
    (h : K (a.put o.dst (.pointer (some ⟨w.heap.size, 0, none⟩))) (w.alloc (.cells (mk 3 fun _ => 0) 70))) : o.wp Try.prog a w K Q := by
  have z3 := zero3
  unfold Oper.wp
  go_simp
  exact h
theorem dead_facts (f : Nat → Int) : ∀ i, i < (ddR f).length → ∃ X : Nat → Int, (∀ W, Calls Try.prog 60 #[.agg (mk 16 f), .agg (mk 3 fun j => flatF (ddR f) (i * 3 + j))] W fun e w' => e = .returned (.tuple #[.agg (mk 16 X), .bool true]) ∧ Below W.heap.size W w') ∧
    ∀ W, Calls Try.prog 61 #[.agg (mk 16 X)] W fun e w' => e = .returned (.tuple #[.bool true, .bool true]) ∧ Below W.heap.size W w' := by
  intro i hi
  by_cases hV : Vd f
  · rw [ddR_yes hV] at hi ⊢
    rw [plL_len] at hi
    obtain ⟨p, hp⟩ : ∃ p, (ddL f (plA f))[i]? = some p := ⟨_, List.getElem?_eq_getElem hi⟩
    obtain ⟨q1, q2, q3⟩ := dead_at hV hp
    obtain ⟨t1, t2⟩ := place_put8 hV q1
    refine ⟨plB f p, fun W => ?_, fun W => ?_⟩
    · rw [pl_at hp]
      have := implPt_any f (plF p) W
      rw [t1, t2] at this
      exact this
    · have := implOver_any (plB f p) W
      rw [q3, vdO_yes q2] at this
      exact this
  · rw [ddR_no hV] at hi; simp at hi
theorem moves_facts (f : Nat → Int) (n : Int) (h : sfO f n = true) : ∃ (NM : Nat) (HM : Nat → Int), NM ≤ 4 ∧ (∀ W, Calls Try.prog 64 #[.agg (mk 16 f)] W fun e w' => ∃ b c, e = .returned (.tuple #[.slice (some ⟨b, 0, none⟩) NM c, .bool true]) ∧ IRow w' (.slice (some ⟨b, 0, none⟩) NM c) NM HM ∧ Below W.heap.size W w') ∧
    ∀ i, i < NM → ∃ (P : Nat → Int), ∀ W, Calls Try.prog 56 #[.agg (mk 16 f), .int .i64 (HM i), .int .i64 n] W fun e w' => e = .returned (.tuple #[.agg (mk 3 P), .bool (!hasI (fun i => (sfR f n).getD i 0) (sfR f n).length (HM i))]) ∧ Below W.heap.size W w' := by
  have hV : Vd f := (lasts_safe h).2.2.2.2
  refine ⟨(movL f 4).length, fun i => (movL f 4).getD i 0, movL_le f 4, fun W => ?_, fun i hi => ?_⟩
  · have := implMoves_any f W
    rw [movR_yes hV, vdO_yes hV] at this
    exact this.mono fun e w' ⟨g, c, r1, r2, r3⟩ => ⟨g, c, r1, irow_list8 r2, r3⟩
  · have hd : (movL f 4).getD i 0 ∈ movL f 4 := by
      rw [List.getD_eq_getElem?_getD, List.getElem?_eq_getElem hi]
      exact List.getElem_mem hi
    refine ⟨plF (rfP (rmR f ((movL f 4).getD i 0) n)), fun W => ?_⟩
    have := implRefute_any f ((movL f 4).getD i 0) n W
    rw [refuted_safe h hd] at this
    exact this
theorem refuted_bd {f : Nat → Int} {d n : Int} {p : Nat × Nat} (h : rmR f d n = some p) : 1 ≤ n ∧ n ≤ 3 := by
  by_cases hr : RefOk f d n
  · exact hr.2.2
  · rw [rm_no hr] at h; cases h
theorem krow_lt {m : Nat} {w : World} {g c n : Nat} {h : Nat → Int} (r : KRow m w (.slice (some ⟨g, 0, none⟩) n c) n h) : g < w.heap.size := by
  obtain ⟨_, _, e1, _, hc⟩ := r
  cases e1
  exact hc.1
theorem irow_lt {w : World} {g c n : Nat} {h : Nat → Int} (r : IRow w (.slice (some ⟨g, 0, none⟩) n c) n h) : g < w.heap.size := by
  obtain ⟨_, _, e1, _, hl, _⟩ := r
  cases e1
  exact hl
theorem irow_at {w : World} {g c n : Nat} {h : Nat → Int} (r : IRow w (.slice (some ⟨g, 0, none⟩) n c) n h) : CAt w g n h := by
  obtain ⟨_, _, e1, _, hl, hh⟩ := r
  cases e1
  exact ⟨hl, hh⟩
theorem krow_set {m : Nat} {w w' : World} {b g c n : Nat} {h : Nat → Int} (r : KRow m w (.slice (some ⟨g, 0, none⟩) n c) n h) (hg : w.grownBy w' (some b)) (hne : g ≠ b) : KRow m w' (.slice (some ⟨g, 0, none⟩) n c) n h := by
  obtain ⟨_, _, e1, q, hc⟩ := r
  cases e1
  exact ⟨_, _, rfl, q, hc.grownP hg (sne hne)⟩
theorem irow_set {w w' : World} {b g c n : Nat} {h : Nat → Int} (r : IRow w (.slice (some ⟨g, 0, none⟩) n c) n h) (hg : w.grownBy w' (some b)) (hne : g ≠ b) : IRow w' (.slice (some ⟨g, 0, none⟩) n c) n h := by
  obtain ⟨_, _, e1, q, hl, hh⟩ := r
  cases e1
  exact ⟨_, _, rfl, q, Nat.lt_of_lt_of_le hl hg.size, fun j hj => World.grownBy.cell hg (hh j hj) (by intro e; cases e; exact hne rfl)⟩
set_option maxHeartbeats 16000000 in
set_option maxRecDepth 100000 in
theorem walk (w : World) (_ : w.ShapedOpen Try.prog) (a0 : Option Addr) (len0 cap0 : Nat) (z0 : List Int) (hr : IsRow .u8 w a0 len0 cap0 z0) :
    Calls Try.prog 9 #[.slice a0 len0 cap0] w fun e w' => e = .returned (.bool true) ∧ Below w.heap.size w w' := by
  have z16 := zero16
  have z3 := zero3
  have iNB := neqB_self
  have iNA := neqA_self
  have HR := Lib.hid hr
  have HB : Hid (Below w.heap.size w w) := Below.refl w.heap.size w
  clear hr
  by_cases hl : len0 ≤ 65536
  · have dl : decide ((65536 : Int) < (len0 : Int)) = false := by simp; omega
    go_enter Try.func9, Try.ntmps9
    go_wp2_with fail
    refine (rBig_any a0 len0 cap0 _).mono ?_
    rintro e w' ⟨rfl, rfl⟩
    rw [dl]
    clear dl
    go_wp2_with fail
    refine (drawLasts_any a0 len0 cap0 _ hl (HR.out.code)).mono ?_
    rintro e w1 ⟨f, n, rfl, hb⟩
    replace HB : Hid (Below w.heap.size w w1) := HB.out.trans (hb.mono HB.out.size)
    clear hb
    have K3 := Blk.new (w1) 16 (f) 29
    replace HB : Hid (Below w.heap.size w ((w1).alloc (.cells (mk 16 (f)) 29))) := HB.out.alloc HB.out.size _
    obtain ⟨la, hla⟩ : ∃ x, x = ltR f n := ⟨_, rfl⟩
    obtain ⟨ok, hok⟩ : ∃ x, x = ltO f n := ⟨_, rfl⟩
    obtain ⟨hw, hhw⟩ : ∃ x, x = hwR f := ⟨_, rfl⟩
    obtain ⟨V, hV⟩ : ∃ x, x = vdO f := ⟨_, rfl⟩
    obtain ⟨two, htwo⟩ : ∃ x, x = sfO f n := ⟨_, rfl⟩
    obtain ⟨NS, hNS⟩ : ∃ x, x = (sfR f n).length := ⟨_, rfl⟩
    obtain ⟨HS, hHS⟩ : ∃ x, x = fun i => (sfR f n).getD i 0 := ⟨_, rfl⟩
    obtain ⟨N2, hN2⟩ : ∃ x, x = (ddR f).length := ⟨_, rfl⟩
    obtain ⟨H2, hH2⟩ : ∃ x, x = flatF (ddR f) := ⟨_, rfl⟩
    obtain ⟨Sp, hSp⟩ : ∃ x, x = (wtR f).p := ⟨_, rfl⟩
    obtain ⟨Sv, hSv⟩ : ∃ x, x = (wtR f).v := ⟨_, rfl⟩
    obtain ⟨So, hSo⟩ : ∃ x, x = (wtR f).ok := ⟨_, rfl⟩
    have iLA := Lib.hid (implLasts_any f n)
    have sLA := Lib.hid (specLasts_any f n)
    have iHW := Lib.hid (implLastsHow_any f)
    have sHW := Lib.hid (specLastsHow_any f)
    have iWT := Lib.hid (implWorst_any f)
    have sWT := Lib.hid (specWorst_any f)
    have iSF : Hid (∀ W, Calls Try.prog 52 #[.agg (mk 16 f), .int .i64 n] W fun e w' => ∃ b c, e = .returned (.tuple #[.slice (some ⟨b, 0, none⟩) NS c, .bool two]) ∧ IRow w' (.slice (some ⟨b, 0, none⟩) NS c) NS HS ∧ Below W.heap.size W w') := by
      show ∀ W, _; intro W; rw [hNS, hHS, htwo]; exact (implSafe_any f n W).mono fun e w' ⟨g, c, r1, r2, r3⟩ => ⟨g, c, r1, irow_list8 r2, r3⟩
    have sSF : Hid (∀ W, Calls Try.prog 53 #[.agg (mk 16 f), .int .i64 n] W fun e w' => ∃ b c, e = .returned (.tuple #[.slice (some ⟨b, 0, none⟩) NS c, .bool two]) ∧ IRow w' (.slice (some ⟨b, 0, none⟩) NS c) NS HS ∧ Below W.heap.size W w') := by
      show ∀ W, _; intro W; rw [hNS, hHS, htwo]; exact (specSafe_any f n W).mono fun e w' ⟨g, c, r1, r2, r3⟩ => ⟨g, c, r1, irow_list8 r2, r3⟩
    have iDD : Hid (∀ W, Calls Try.prog 58 #[.agg (mk 16 f)] W fun e w' => ∃ b c, e = .returned (.tuple #[.slice (some ⟨b, 0, none⟩) N2 c, .bool V]) ∧ KRow 3 w' (.slice (some ⟨b, 0, none⟩) N2 c) N2 H2 ∧ Below W.heap.size W w') := by
      show ∀ W, _; intro W; rw [hN2, hH2, hV]; exact (implDead_any f W).mono fun e w' ⟨g, c, r1, r2, r3⟩ => ⟨g, c, r1, KRow.of_list (ddR_all f) r2, r3⟩
    have sDD : Hid (∀ W, Calls Try.prog 59 #[.agg (mk 16 f)] W fun e w' => ∃ b c, e = .returned (.tuple #[.slice (some ⟨b, 0, none⟩) N2 c, .bool V]) ∧ KRow 3 w' (.slice (some ⟨b, 0, none⟩) N2 c) N2 H2 ∧ Below W.heap.size W w') := by
      show ∀ W, _; intro W; rw [hN2, hH2, hV]; exact (specDead_any f W).mono fun e w' ⟨g, c, r1, r2, r3⟩ => ⟨g, c, r1, KRow.of_list (ddR_all f) r2, r3⟩
    have HLH : Hid (ok = true → la = decide (n ≤ hw)) := by show _ → _; rw [hok, hla, hhw]; exact lasts_how
    have HLS : Hid (two = true → ok = true ∧ la = decide (0 < (NS : Int)) ∧ V = true) := by
      show _ → _; rw [htwo, hok, hla, hNS, hV]; intro h; obtain ⟨q1, q2, _, _, q5⟩ := lasts_safe h; exact ⟨q1, q2, vdO_yes q5⟩
    have HWD : Hid (So = true → (Sv == 0) = decide (0 < (N2 : Int))) := by show _ → _; rw [hSo, hSv, hN2]; exact worst_dead
    have HDA : Hid (∀ i, i < N2 → ∃ X : Nat → Int, (∀ W, Calls Try.prog 60 #[.agg (mk 16 f), .agg (mk 3 fun j => H2 (i * 3 + j))] W fun e w' => e = .returned (.tuple #[.agg (mk 16 X), .bool true]) ∧ Below W.heap.size W w') ∧
        ∀ W, Calls Try.prog 61 #[.agg (mk 16 X)] W fun e w' => e = .returned (.tuple #[.bool true, .bool true]) ∧ Below W.heap.size W w') := by
      show ∀ i, _; rw [hN2, hH2]; exact dead_facts f
    have HMV : Hid (two = true → ∃ (NM : Nat) (HM : Nat → Int), NM ≤ 4 ∧ (∀ W, Calls Try.prog 64 #[.agg (mk 16 f)] W fun e w' => ∃ b c, e = .returned (.tuple #[.slice (some ⟨b, 0, none⟩) NM c, .bool true]) ∧ IRow w' (.slice (some ⟨b, 0, none⟩) NM c) NM HM ∧ Below W.heap.size W w') ∧
        ∀ i, i < NM → ∃ (P : Nat → Int), ∀ W, Calls Try.prog 56 #[.agg (mk 16 f), .int .i64 (HM i), .int .i64 n] W fun e w' => e = .returned (.tuple #[.agg (mk 3 P), .bool (!hasI HS NS (HM i))]) ∧ Below W.heap.size W w') := by
      show _ → _; rw [htwo, hNS, hHS]; exact moves_facts f n
    have hNS4 : NS ≤ 4 := by rw [hNS]; exact sfR_le f n
    have hN232 : N2 ≤ 32 := by rw [hN2]; exact ddR_le f
    rw [← hla, ← hok] at iLA sLA
    rw [← hhw, ← hV] at iHW sHW
    rw [← hSp, ← hSv, ← hSo] at iWT sWT
    clear hla hok hhw hV htwo hNS hHS hN2 hH2 hSp hSv hSo
    go_wp2_with (first | ((with_reducible show wpList _ _ _ (Oper.mk _ (Op.load 29 _) _ _ _ _ :: _) _ _); refine loadB (K3) rfl rfl rfl ?_) | ((with_reducible show wpList _ _ _ (Oper.mk _ (Op.load 29 _) _ _ _ (some _) :: _) _ _); refine loadgB (K3) rfl rfl rfl ?_))
    generalize w1.alloc (.cells (mk 16 (f)) 29) = w2 at *
    generalize w1.heap.size = b3 at *
    refine (iLA.out _).mono ?_
    rintro e w3 ⟨rfl, hb⟩
    replace K3 := K3.below hb K3.lt
    replace HB : Hid (Below w.heap.size w w3) := HB.out.trans (hb.mono HB.out.size)
    clear hb
    go_wp2_with (first | ((with_reducible show wpList _ _ _ (Oper.mk _ (Op.load 29 _) _ _ _ _ :: _) _ _); refine loadB (K3) rfl rfl rfl ?_) | ((with_reducible show wpList _ _ _ (Oper.mk _ (Op.load 29 _) _ _ _ (some _) :: _) _ _); refine loadgB (K3) rfl rfl rfl ?_))
    refine (sLA.out _).mono ?_
    rintro e w4 ⟨rfl, hb⟩
    replace K3 := K3.below hb K3.lt
    replace HB : Hid (Below w.heap.size w w4) := HB.out.trans (hb.mono HB.out.size)
    clear hb
    go_wp2_with (first | ((with_reducible show wpList _ _ _ (Oper.mk _ (Op.load 29 _) _ _ _ _ :: _) _ _); refine loadB (K3) rfl rfl rfl ?_) | ((with_reducible show wpList _ _ _ (Oper.mk _ (Op.load 29 _) _ _ _ (some _) :: _) _ _); refine loadgB (K3) rfl rfl rfl ?_))
    refine (iHW.out _).mono ?_
    rintro e w5 ⟨rfl, hb⟩
    replace K3 := K3.below hb K3.lt
    replace HB : Hid (Below w.heap.size w w5) := HB.out.trans (hb.mono HB.out.size)
    clear hb
    go_wp2_with (first | ((with_reducible show wpList _ _ _ (Oper.mk _ (Op.load 29 _) _ _ _ _ :: _) _ _); refine loadB (K3) rfl rfl rfl ?_) | ((with_reducible show wpList _ _ _ (Oper.mk _ (Op.load 29 _) _ _ _ (some _) :: _) _ _); refine loadgB (K3) rfl rfl rfl ?_))
    refine (sHW.out _).mono ?_
    rintro e w6 ⟨rfl, hb⟩
    replace K3 := K3.below hb K3.lt
    replace HB : Hid (Below w.heap.size w w6) := HB.out.trans (hb.mono HB.out.size)
    clear hb
    go_upto_region 10 with fail
    go_cut [105] from 105 to 105 (fun s105 wc => s105 = .bool false ∧ Blk wc b3 16 f 29 ∧ Below w.heap.size w wc)
    case first => as_aux_lemma =>
      cases ok with
      | false =>
        go_wp2_with fail
        go_meet
        case rel => exact ⟨by first | rfl | (simp; omega), K3, HB.out⟩
      | true =>
        have h := HLH.out rfl
        by_cases hn : n ≤ hw
        · obtain rfl : la = true := by rw [h]; exact decide_eq_true hn
          clear h
          go_wp2_with fail
          go_meet
          case rel => exact ⟨by first | rfl | (simp; omega), K3, HB.out⟩
        · obtain rfl : la = false := by rw [h]; exact decide_eq_false hn
          clear h
          go_wp2_with fail
          go_meet
          case rel => exact ⟨by first | rfl | (simp; omega), K3, HB.out⟩
    case rest =>
      clear K3 HB
      obtain ⟨rfl, K3, hb0⟩ := hcut
      have HB := Lib.hid hb0
      clear hb0
      go_wp2_with (first | ((with_reducible show wpList _ _ _ (Oper.mk _ (Op.load 29 _) _ _ _ _ :: _) _ _); refine loadB (K3) rfl rfl rfl ?_) | ((with_reducible show wpList _ _ _ (Oper.mk _ (Op.load 29 _) _ _ _ (some _) :: _) _ _); refine loadgB (K3) rfl rfl rfl ?_))
      refine (iSF.out _).mono ?_
      rintro e w11 ⟨g1, c1, rfl, hrow, hb⟩
      replace K3 := K3.below hb K3.lt
      replace HB : Hid (Below w.heap.size w w11) := HB.out.trans (hb.mono HB.out.size)
      clear hb
      have R1 := Lib.hid hrow
      clear hrow
      go_wp2_with (first | ((with_reducible show wpList _ _ _ (Oper.mk _ (Op.load 29 _) _ _ _ _ :: _) _ _); refine loadB (K3) rfl rfl rfl ?_) | ((with_reducible show wpList _ _ _ (Oper.mk _ (Op.load 29 _) _ _ _ (some _) :: _) _ _); refine loadgB (K3) rfl rfl rfl ?_))
      refine (sSF.out _).mono ?_
      rintro e w12 ⟨g2, c2, rfl, hrow, hb⟩
      replace K3 := K3.below hb K3.lt
      replace R1 := Lib.hid (R1.out.below hb)
      replace HB : Hid (Below w.heap.size w w12) := HB.out.trans (hb.mono HB.out.size)
      clear hb
      have R2 := Lib.hid hrow
      clear hrow
      go_upto_region 14 with fail
      go_cut [136] from 136 to 136 (fun s136 wc => s136 = .bool false ∧ Blk wc b3 16 f 29 ∧ IRow wc (.slice (some ⟨g1, 0, none⟩) NS c1) NS HS ∧ Below w.heap.size w wc)
      case first => as_aux_lemma =>
        cases two with
        | false =>
          go_wp2_with fail
          refine (rInts_yes _ _ NS HS _ R1.out R2.out (by omega)).mono ?_
          rintro e w20 ⟨rfl, q8, hq8⟩
          have hb : Below w12.heap.size w12 w20 := by rw [hq8]; exact below_drewN8 (Below.refl _ _) _
          clear hq8
          replace K3 := K3.below hb K3.lt
          replace R1 := Lib.hid (R1.out.below hb)
          replace HB : Hid (Below w.heap.size w w20) := HB.out.trans (hb.mono HB.out.size)
          clear hb
          go_wp2_with fail
          go_meet
          case rel => exact ⟨by first | rfl | (simp; omega), K3, R1.out, HB.out⟩
        | true =>
          have h := (HLS.out rfl).2.1
          by_cases hn : 0 < (NS : Int)
          · obtain rfl : la = true := by rw [h]; exact decide_eq_true hn
            clear h
            go_wp2_with fail
            refine (rInts_yes _ _ NS HS _ R1.out R2.out (by omega)).mono ?_
            rintro e w20 ⟨rfl, q8, hq8⟩
            have hb : Below w12.heap.size w12 w20 := by rw [hq8]; exact below_drewN8 (Below.refl _ _) _
            clear hq8
            replace K3 := K3.below hb K3.lt
            replace R1 := Lib.hid (R1.out.below hb)
            replace HB : Hid (Below w.heap.size w w20) := HB.out.trans (hb.mono HB.out.size)
            clear hb
            go_wp2_with fail
            go_meet
            case rel => exact ⟨by first | rfl | (simp; omega), K3, R1.out, HB.out⟩
          · obtain rfl : la = false := by rw [h]; exact decide_eq_false hn
            clear h
            go_wp2_with fail
            refine (rInts_yes _ _ NS HS _ R1.out R2.out (by omega)).mono ?_
            rintro e w20 ⟨rfl, q8, hq8⟩
            have hb : Below w12.heap.size w12 w20 := by rw [hq8]; exact below_drewN8 (Below.refl _ _) _
            clear hq8
            replace K3 := K3.below hb K3.lt
            replace R1 := Lib.hid (R1.out.below hb)
            replace HB : Hid (Below w.heap.size w w20) := HB.out.trans (hb.mono HB.out.size)
            clear hb
            go_wp2_with fail
            go_meet
            case rel => exact ⟨by first | rfl | (simp; omega), K3, R1.out, HB.out⟩
      case rest =>
        clear K3 HB R1 R2
        obtain ⟨rfl, K3, r1, hb0⟩ := hcut
        have HB := Lib.hid hb0
        have R1 := Lib.hid r1
        clear hb0 r1
        go_wp2_with fail
        refine (drawRefute_any a0 len0 cap0 _ hl (HR.out.code.later HB.out)).mono ?_
        rintro e w31 ⟨g, d, k, rfl, hb⟩
        replace K3 := K3.below hb K3.lt
        replace R1 := Lib.hid (R1.out.below hb)
        replace HB : Hid (Below w.heap.size w w31) := HB.out.trans (hb.mono HB.out.size)
        clear hb
        have K17 := Blk.new (w31) 16 (g) 29
        replace K3 := K3.alloc (.cells (mk 16 (g)) 29)
        replace HB : Hid (Below w.heap.size w ((w31).alloc (.cells (mk 16 (g)) 29))) := HB.out.alloc HB.out.size _
        replace R1 := Lib.hid (R1.out.below ((Below.refl _ _).alloc (Nat.le_refl _) (.cells (mk 16 (g)) 29)))
        obtain ⟨R, hRR⟩ : ∃ x, x = rmR g d k := ⟨_, rfl⟩
        have iRM := Lib.hid (implRefute_any g d k)
        have sRM := Lib.hid (specRefute_any g d k)
        have HRF := Lib.hid (fun p (h : rmR g d k = some p) => And.intro (refuted_bd h) (refuted h))
        rw [← hRR] at iRM sRM HRF
        clear hRR
        go_wp2_with (first | ((with_reducible show wpList _ _ _ (Oper.mk _ (Op.load 29 _) _ _ _ _ :: _) _ _); refine loadB (K17) rfl rfl rfl ?_) | ((with_reducible show wpList _ _ _ (Oper.mk _ (Op.load 29 _) _ _ _ (some _) :: _) _ _); refine loadgB (K17) rfl rfl rfl ?_))
        generalize (w31).alloc (.cells (mk 16 (g)) 29) = w32 at *
        generalize w31.heap.size = b17 at *
        refine (iRM.out _).mono ?_
        rintro e w33 ⟨rfl, hb⟩
        replace K3 := K3.below hb K3.lt
        replace K17 := K17.below hb K17.lt
        replace R1 := Lib.hid (R1.out.below hb)
        replace HB : Hid (Below w.heap.size w w33) := HB.out.trans (hb.mono HB.out.size)
        clear hb
        have K20 := Blk.new (w33) 3 (plF (rfP R)) 70
        replace K3 := K3.alloc (.cells (mk 3 (plF (rfP R))) 70)
        replace K17 := K17.alloc (.cells (mk 3 (plF (rfP R))) 70)
        replace HB : Hid (Below w.heap.size w ((w33).alloc (.cells (mk 3 (plF (rfP R))) 70))) := HB.out.alloc HB.out.size _
        replace R1 := Lib.hid (R1.out.below ((Below.refl _ _).alloc (Nat.le_refl _) (.cells (mk 3 (plF (rfP R))) 70)))
        go_wp2_with (first | ((with_reducible show wpList _ _ _ (Oper.mk _ (Op.load 29 _) _ _ _ _ :: _) _ _); refine loadB (K17) rfl rfl rfl ?_) | ((with_reducible show wpList _ _ _ (Oper.mk _ (Op.load 29 _) _ _ _ (some _) :: _) _ _); refine loadgB (K17) rfl rfl rfl ?_))
        generalize (w33).alloc (.cells (mk 3 (plF (rfP R))) 70) = w34 at *
        generalize w33.heap.size = b20 at *
        refine (sRM.out _).mono ?_
        rintro e w35 ⟨rfl, hb⟩
        replace K3 := K3.below hb K3.lt
        replace K17 := K17.below hb K17.lt
        replace K20 := K20.below hb K20.lt
        replace R1 := Lib.hid (R1.out.below hb)
        replace HB : Hid (Below w.heap.size w w35) := HB.out.trans (hb.mono HB.out.size)
        clear hb
        have K22 := Blk.new (w35) 3 (plF (rfP R)) 70
        replace K3 := K3.alloc (.cells (mk 3 (plF (rfP R))) 70)
        replace K17 := K17.alloc (.cells (mk 3 (plF (rfP R))) 70)
        replace K20 := K20.alloc (.cells (mk 3 (plF (rfP R))) 70)
        replace HB : Hid (Below w.heap.size w ((w35).alloc (.cells (mk 3 (plF (rfP R))) 70))) := HB.out.alloc HB.out.size _
        replace R1 := Lib.hid (R1.out.below ((Below.refl _ _).alloc (Nat.le_refl _) (.cells (mk 3 (plF (rfP R))) 70)))
        go_wp2_with (first | ((with_reducible show wpList _ _ _ (Oper.mk _ (Op.load 70 _) _ _ _ _ :: _) _ _); refine loadA (K20) rfl rfl rfl ?_) | ((with_reducible show wpList _ _ _ (Oper.mk _ (Op.load 70 _) _ _ _ (some _) :: _) _ _); refine loadgA (K20) rfl rfl rfl ?_) | ((with_reducible show wpList _ _ _ (Oper.mk _ (Op.load 70 _) _ _ _ _ :: _) _ _); refine loadA (K22) rfl rfl rfl ?_) | ((with_reducible show wpList _ _ _ (Oper.mk _ (Op.load 70 _) _ _ _ (some _) :: _) _ _); refine loadgA (K22) rfl rfl rfl ?_) | ((with_reducible show wpList _ _ _ (Oper.mk _ (Op.load 29 _) _ _ _ _ :: _) _ _); refine loadB (K3) rfl rfl rfl ?_) | ((with_reducible show wpList _ _ _ (Oper.mk _ (Op.load 29 _) _ _ _ (some _) :: _) _ _); refine loadgB (K3) rfl rfl rfl ?_))
        clear K22
        generalize (w35).alloc (.cells (mk 3 (plF (rfP R))) 70) = w36 at *
        refine (iDD.out _).mono ?_
        rintro e w37 ⟨g3, c3, rfl, hrow, hb⟩
        replace K3 := K3.below hb K3.lt
        replace K17 := K17.below hb K17.lt
        replace K20 := K20.below hb K20.lt
        replace R1 := Lib.hid (R1.out.below hb)
        replace HB : Hid (Below w.heap.size w w37) := HB.out.trans (hb.mono HB.out.size)
        clear hb
        have R3 := Lib.hid hrow
        clear hrow
        go_wp2_with (first | ((with_reducible show wpList _ _ _ (Oper.mk _ (Op.load 29 _) _ _ _ _ :: _) _ _); refine loadB (K3) rfl rfl rfl ?_) | ((with_reducible show wpList _ _ _ (Oper.mk _ (Op.load 29 _) _ _ _ (some _) :: _) _ _); refine loadgB (K3) rfl rfl rfl ?_))
        refine (sDD.out _).mono ?_
        rintro e w38 ⟨g4, c4, rfl, hrow, hb⟩
        replace K3 := K3.below hb K3.lt
        replace K17 := K17.below hb K17.lt
        replace K20 := K20.below hb K20.lt
        replace R1 := Lib.hid (R1.out.below hb)
        replace R3 := Lib.hid (R3.out.below hb)
        replace HB : Hid (Below w.heap.size w w38) := HB.out.trans (hb.mono HB.out.size)
        clear hb
        have R4 := Lib.hid hrow
        clear hrow
        go_wp2_with fail
        go_loopg [28] N2 (fun gk s28 wr => ∃ i : Nat, i + gk = N2 ∧ s28 = .int .i64 i ∧ Blk wr b3 16 f 29 ∧ Blk wr b17 16 g 29 ∧ Blk wr b20 3 (plF (rfP R)) 70 ∧ Hid (IRow wr (.slice (some ⟨g1, 0, none⟩) NS c1) NS HS) ∧ Hid (KRow 3 wr (.slice (some ⟨g3, 0, none⟩) N2 c3) N2 H2) ∧ Hid (KRow 3 wr (.slice (some ⟨g4, 0, none⟩) N2 c4) N2 H2) ∧ Hid (Below w.heap.size w wr))
        case atStart => exact ⟨0, by omega, rfl, K3, K17, K20, R1, R3, R4, HB⟩
        case round =>
          clear K3 K17 K20 R1 R3 R4 HB
          obtain ⟨i, hig, rfl, K3, K17, K20, R1, R3, R4, HB⟩ := hrel
          cases gk with
          | succ gk2 =>
            have hi8 : (i : Int) < (N2 : Int) := by omega
            have hi9 : i < N2 := by omega
            have hi0 : (0 : Int) ≤ (i : Int) := by omega
            obtain ⟨X, hpt, hov⟩ := HDA.out i hi9
            have HPT := Lib.hid hpt
            have HOV := Lib.hid hov
            clear hpt hov
            obtain ⟨C1, rfl1⟩ := krow_at R3.out
            obtain ⟨C2, rfl2⟩ := krow_at R4.out
            go_wp2_with fail
            refine wp_region_held_drew (S := fun W => CAt W g3 (N2 * 3) H2 ∧ CAt W g4 (N2 * 3) H2) (by kernel_rfl) (⟨C1.drew, C2.drew⟩) (fun hHeld => ?_)
            replace K3 : Blk wr.drew b3 16 f 29 := K3.drew
            replace K17 : Blk wr.drew b17 16 g 29 := K17.drew
            replace K20 : Blk wr.drew b20 3 (plF (rfP R)) 70 := K20.drew
            replace R1 : Hid (IRow wr.drew (.slice (some ⟨g1, 0, none⟩) NS c1) NS HS) := R1.out.below ((Below.refl _ _).drew)
            replace R3 : Hid (KRow 3 wr.drew (.slice (some ⟨g3, 0, none⟩) N2 c3) N2 H2) := R3.out.below ((Below.refl _ _).drew)
            replace R4 : Hid (KRow 3 wr.drew (.slice (some ⟨g4, 0, none⟩) N2 c4) N2 H2) := R4.out.below ((Below.refl _ _).drew)
            replace HB : Hid (Below w.heap.size w wr.drew) := HB.out.drew
            clear C1 C2
            generalize wr.drew = x0 at *
            refine wpAnyH_take (i := 0) (oi := { dst := some 196, op := _, type := _, pos := _, after := _, guard := _ }) (v := .slice (some ⟨g3, 0, none⟩) N2 c3) rfl (by kernel_rfl) (by kernel_rfl) (by kernel_rfl) (fun _ _ _ h => h) (Or.inl ⟨by rfl, by intro w hSw; clear hSw; go_simp; (try with_reducible rfl)⟩) (by assumption) ?_
            try simp only [Act.put, List.setIfInBounds_toArray, List.set_cons_zero, List.set_cons_succ]
            refine wpAnyH_take (i := 1) (oi := { dst := some 197, op := _, type := _, pos := _, after := _, guard := _ }) (v := .int .i64 (i : Int)) rfl (by kernel_rfl) (by kernel_rfl) (by kernel_rfl) (fun _ _ _ h => h) (Or.inl ⟨by rfl, by intro w hSw; clear hSw; go_simp; (try with_reducible rfl)⟩) (by assumption) ?_
            try simp only [Act.put, List.setIfInBounds_toArray, List.set_cons_zero, List.set_cons_succ]
            refine wpAnyH_take (i := 2) (oi := { dst := some 198, op := _, type := _, pos := _, after := _, guard := _ }) (v := .pointer (some ⟨g3, i * 3, none⟩)) rfl (by kernel_rfl) (by kernel_rfl) (by kernel_rfl) (fun _ _ _ h => h) (Or.inl ⟨by rfl, by intro w hSw; clear hSw; go_simp; (try with_reducible rfl)⟩) (by assumption) ?_
            try simp only [Act.put, List.setIfInBounds_toArray, List.set_cons_zero, List.set_cons_succ]
            refine wpAnyH_take (i := 3) (oi := { dst := some 199, op := _, type := _, pos := _, after := _, guard := _ }) (v := .agg (mk 3 (fun j => H2 (i * 3 + j)))) rfl (by kernel_rfl) (by kernel_rfl) (by kernel_rfl) (fun _ _ _ h => h) (Or.inl ⟨by rfl, fun _ q => execAA q.1 (by omega) rfl rfl⟩) (by assumption) ?_
            try simp only [Act.put, List.setIfInBounds_toArray, List.set_cons_zero, List.set_cons_succ]
            refine wpAnyH_take (i := 4) (oi := { dst := some 200, op := _, type := _, pos := _, after := _, guard := _ }) (v := .slice (some ⟨g4, 0, none⟩) N2 c4) rfl (by kernel_rfl) (by kernel_rfl) (by kernel_rfl) (fun _ _ _ h => h) (Or.inl ⟨by rfl, by intro w hSw; clear hSw; go_simp; (try with_reducible rfl)⟩) (by assumption) ?_
            try simp only [Act.put, List.setIfInBounds_toArray, List.set_cons_zero, List.set_cons_succ]
            refine wpAnyH_take (i := 5) (oi := { dst := some 201, op := _, type := _, pos := _, after := _, guard := _ }) (v := .int .i64 (i : Int)) rfl (by kernel_rfl) (by kernel_rfl) (by kernel_rfl) (fun _ _ _ h => h) (Or.inl ⟨by rfl, by intro w hSw; clear hSw; go_simp; (try with_reducible rfl)⟩) (by assumption) ?_
            try simp only [Act.put, List.setIfInBounds_toArray, List.set_cons_zero, List.set_cons_succ]
            refine wpAnyH_take (i := 6) (oi := { dst := some 202, op := _, type := _, pos := _, after := _, guard := _ }) (v := .pointer (some ⟨g4, i * 3, none⟩)) rfl (by kernel_rfl) (by kernel_rfl) (by kernel_rfl) (fun _ _ _ h => h) (Or.inl ⟨by rfl, by intro w hSw; clear hSw; go_simp; (try with_reducible rfl)⟩) (by assumption) ?_
            try simp only [Act.put, List.setIfInBounds_toArray, List.set_cons_zero, List.set_cons_succ]
            refine wpAnyH_take (i := 7) (oi := { dst := some 203, op := _, type := _, pos := _, after := _, guard := _ }) (v := .agg (mk 3 (fun j => H2 (i * 3 + j)))) rfl (by kernel_rfl) (by kernel_rfl) (by kernel_rfl) (fun _ _ _ h => h) (Or.inl ⟨by rfl, fun _ q => execAA q.2 (by omega) rfl rfl⟩) (by assumption) ?_
            try simp only [Act.put, List.setIfInBounds_toArray, List.set_cons_zero, List.set_cons_succ]
            refine wpAnyH_take (i := 8) (oi := { dst := some 204, op := _, type := _, pos := _, after := _, guard := _ }) (v := .bool false) rfl (by kernel_rfl) (by kernel_rfl) (by kernel_rfl) (fun _ _ _ h => h) (Or.inl ⟨by rfl, by intro W hSw; clear hSw; have hn := neqA_self (fun j => H2 (i * 3 + j)) W; go_simp⟩) (by assumption) ?_
            try simp only [Act.put, List.setIfInBounds_toArray, List.set_cons_zero, List.set_cons_succ]
            refine wpAnyH_done (by kernel_rfl) ?_ _
            clear hHeld
            go_wp2_with fail
            obtain ⟨C3, rfl3⟩ := krow_at R3.out
            refine wp_region_held_drew (S := fun W => Blk W b3 16 f 29 ∧ CAt W g3 (N2 * 3) H2) (by kernel_rfl) (⟨K3.drew, C3.drew⟩) (fun hHeld => ?_)
            replace K3 : Blk x0.drew b3 16 f 29 := K3.drew
            replace K17 : Blk x0.drew b17 16 g 29 := K17.drew
            replace K20 : Blk x0.drew b20 3 (plF (rfP R)) 70 := K20.drew
            replace R1 : Hid (IRow x0.drew (.slice (some ⟨g1, 0, none⟩) NS c1) NS HS) := R1.out.below ((Below.refl _ _).drew)
            replace R3 : Hid (KRow 3 x0.drew (.slice (some ⟨g3, 0, none⟩) N2 c3) N2 H2) := R3.out.below ((Below.refl _ _).drew)
            replace R4 : Hid (KRow 3 x0.drew (.slice (some ⟨g4, 0, none⟩) N2 c4) N2 H2) := R4.out.below ((Below.refl _ _).drew)
            replace HB : Hid (Below w.heap.size w x0.drew) := HB.out.drew
            replace C3 : CAt x0.drew g3 (N2 * 3) H2 := C3.drew
            generalize x0.drew = x1 at *
            refine wpAnyH_take (i := 0) (oi := { dst := some 206, op := _, type := _, pos := _, after := _, guard := _ }) (v := .agg (mk 16 f)) rfl (by kernel_rfl) (by kernel_rfl) (by kernel_rfl) (fun _ _ _ h => h) (Or.inl ⟨by rfl, fun _ q => execB q.1 rfl rfl⟩) (by assumption) ?_
            try simp only [Act.put, List.setIfInBounds_toArray, List.set_cons_zero, List.set_cons_succ]
            refine wpAnyH_take (i := 1) (oi := { dst := some 207, op := _, type := _, pos := _, after := _, guard := _ }) (v := .slice (some ⟨g3, 0, none⟩) N2 c3) rfl (by kernel_rfl) (by kernel_rfl) (by kernel_rfl) (fun _ _ _ h => h) (Or.inl ⟨by rfl, by intro w hSw; clear hSw; go_simp; (try with_reducible rfl)⟩) (by assumption) ?_
            try simp only [Act.put, List.setIfInBounds_toArray, List.set_cons_zero, List.set_cons_succ]
            refine wpAnyH_take (i := 2) (oi := { dst := some 208, op := _, type := _, pos := _, after := _, guard := _ }) (v := .int .i64 (i : Int)) rfl (by kernel_rfl) (by kernel_rfl) (by kernel_rfl) (fun _ _ _ h => h) (Or.inl ⟨by rfl, by intro w hSw; clear hSw; go_simp; (try with_reducible rfl)⟩) (by assumption) ?_
            try simp only [Act.put, List.setIfInBounds_toArray, List.set_cons_zero, List.set_cons_succ]
            refine wpAnyH_take (i := 3) (oi := { dst := some 209, op := _, type := _, pos := _, after := _, guard := _ }) (v := .pointer (some ⟨g3, i * 3, none⟩)) rfl (by kernel_rfl) (by kernel_rfl) (by kernel_rfl) (fun _ _ _ h => h) (Or.inl ⟨by rfl, by intro w hSw; clear hSw; go_simp; (try with_reducible rfl)⟩) (by assumption) ?_
            try simp only [Act.put, List.setIfInBounds_toArray, List.set_cons_zero, List.set_cons_succ]
            refine wpAnyH_take (i := 4) (oi := { dst := some 210, op := _, type := _, pos := _, after := _, guard := _ }) (v := .agg (mk 3 (fun j => H2 (i * 3 + j)))) rfl (by kernel_rfl) (by kernel_rfl) (by kernel_rfl) (fun _ _ _ h => h) (Or.inl ⟨by rfl, fun _ q => execAA q.2 (by omega) rfl rfl⟩) (by assumption) ?_
            try simp only [Act.put, List.setIfInBounds_toArray, List.set_cons_zero, List.set_cons_succ]
            refine wpAnyH_ready (rs := [5, 9]) (by kernel_rfl) (by simp) ?_
            refine AllReadyH.cons rfl (fun K hK => ?_) ?_
            · go_simp
              refine (HPT.out _).mono ?_
              rintro e x2 ⟨rfl, hb⟩
              replace K3 := K3.below hb K3.lt
              replace K17 := K17.below hb K17.lt
              replace K20 := K20.below hb K20.lt
              replace R1 := Lib.hid (R1.out.below hb)
              replace R3 := Lib.hid (R3.out.below hb)
              replace R4 := Lib.hid (R4.out.below hb)
              replace C3 := C3.below hb
              replace HB : Hid (Below w.heap.size w x2) := HB.out.trans (hb.mono HB.out.size)
              clear hb hHeld
              go_wp2_with fail
              refine hK.out _ _ ⟨K3, C3⟩ (fun hHeld => ?_)
              clear hK K
              try simp only [Act.put, List.setIfInBounds_toArray, List.set_cons_zero, List.set_cons_succ]
              refine wpAnyH_take (i := 6) (oi := { dst := some 205, op := _, type := _, pos := _, after := _, guard := _ }) (v := .tuple #[.agg (mk 16 X), .bool true]) rfl (by kernel_rfl) (by kernel_rfl) (by kernel_rfl) (fun _ _ _ h => h) (Or.inl ⟨by rfl, by intro w hSw; clear hSw; go_simp; (try with_reducible rfl)⟩) (by assumption) ?_
              try simp only [Act.put, List.setIfInBounds_toArray, List.set_cons_zero, List.set_cons_succ]
              refine wpAnyH_take (i := 7) (oi := { dst := some 212, op := _, type := _, pos := _, after := _, guard := _ }) (v := .agg (mk 16 X)) rfl (by kernel_rfl) (by kernel_rfl) (by kernel_rfl) (fun _ _ _ h => h) (Or.inl ⟨by rfl, by intro w hSw; clear hSw; go_simp; (try with_reducible rfl)⟩) (by assumption) ?_
              try simp only [Act.put, List.setIfInBounds_toArray, List.set_cons_zero, List.set_cons_succ]
              refine wpAnyH_take (i := 8) (oi := { dst := some 213, op := _, type := _, pos := _, after := _, guard := _ }) (v := .bool true) rfl (by kernel_rfl) (by kernel_rfl) (by kernel_rfl) (fun _ _ _ h => h) (Or.inl ⟨by rfl, by intro w hSw; clear hSw; go_simp; (try with_reducible rfl)⟩) (by assumption) ?_
              try simp only [Act.put, List.setIfInBounds_toArray, List.set_cons_zero, List.set_cons_succ]
              refine wpAnyH_ready (rs := [9]) (by kernel_rfl) (by simp) ?_
              refine AllReadyH.cons rfl (fun K hK => ?_) AllReadyH.nil
              rw [if_pos (by rfl)]
              refine wp_allocXB rfl ?_
              have K29 := Blk.new x2 16 (fun _ => 0) 29
              have h29 : w.heap.size ≤ x2.heap.size := HB.out.size
              have l3 := K3.lt
              have l17 := K17.lt
              have l20 := K20.lt
              have lc3 := C3.1
              have lr1 := irow_lt R1.out
              have lr3 := krow_lt R3.out
              have lr4 := krow_lt R4.out
              replace K3 := K3.alloc (.cells (mk 16 fun _ => 0) 29)
              replace K17 := K17.alloc (.cells (mk 16 fun _ => 0) 29)
              replace K20 := K20.alloc (.cells (mk 16 fun _ => 0) 29)
              have hb : Below x2.heap.size x2 (x2.alloc (.cells (mk 16 fun _ => 0) 29)) := (Below.refl _ _).alloc (Nat.le_refl _) _
              replace R1 := Lib.hid (R1.out.below hb)
              replace R3 := Lib.hid (R3.out.below hb)
              replace R4 := Lib.hid (R4.out.below hb)
              replace C3 := C3.below hb
              replace HB : Hid (Below w.heap.size w (x2.alloc (.cells (mk 16 fun _ => 0) 29))) := HB.out.trans (hb.mono HB.out.size)
              clear hb
              clear hHeld
              generalize x2.alloc (.cells (mk 16 fun _ => 0) 29) = x3 at *
              generalize x2.heap.size = b29 at *
              refine hK.out _ _ ⟨K3, C3⟩ (fun hHeld => ?_)
              clear hK K
              try simp only [Act.put, List.setIfInBounds_toArray, List.set_cons_zero, List.set_cons_succ]
              refine wpAnyH_ready (rs := [10]) (by kernel_rfl) (by simp) ?_
              refine AllReadyH.cons rfl (fun K hK => ?_) AllReadyH.nil
              have st1 := run_store_blk (P := Try.prog) (g := X) K29
              have ms1 : (mk 16 X).size = 16 := mk_size 16 _
              go_simp
              clear st1 ms1
              have gr := grown_rowP K29 (mk 16 X)
              replace K3 := K3.rowOther b29 (mk 16 X) (by omega)
              replace K17 := K17.rowOther b29 (mk 16 X) (by omega)
              replace K20 := K20.rowOther b29 (mk 16 X) (by omega)
              replace C3 := C3.grownP gr (fun e => by have := Option.some.inj e; omega)
              replace R1 := Lib.hid (irow_set R1.out gr (by omega))
              replace R3 := Lib.hid (krow_set R3.out gr (by omega))
              replace R4 := Lib.hid (krow_set R4.out gr (by omega))
              replace HB : Hid (Below w.heap.size w (x3.setRow b29 (mk 16 X))) := below_setRow HB.out h29 _
              have K29 := K29.row 16 X
              clear hHeld gr
              generalize x3.setRow b29 (mk 16 X) = x9 at *
              refine hK.out _ _ ⟨K3, C3⟩ (fun hHeld => ?_)
              clear hK K
              try simp only [Act.put, List.setIfInBounds_toArray, List.set_cons_zero, List.set_cons_succ]
              refine wpAnyH_take (i := 11) (oi := { dst := some 30, op := _, type := _, pos := _, after := _, guard := _ }) (v := .bool true) rfl (by kernel_rfl) (by kernel_rfl) (by kernel_rfl) (fun _ _ _ h => h) (Or.inl ⟨by rfl, by intro w hSw; clear hSw; go_simp; (try with_reducible rfl)⟩) (by assumption) ?_
              try simp only [Act.put, List.setIfInBounds_toArray, List.set_cons_zero, List.set_cons_succ]
              refine wpAnyH_done (by kernel_rfl) ?_ _
              clear hHeld C3 l3 l17 l20 lc3 lr1 lr3 lr4 h29
              go_wp2_with ((with_reducible show wpList _ _ _ (Oper.mk _ (Op.load 29 _) _ _ _ _ :: _) _ _); refine loadB (K29) rfl rfl rfl ?_)
              refine (HOV.out _).mono ?_
              rintro e w60 ⟨rfl, hb⟩
              replace K3 := K3.below hb K3.lt
              replace K17 := K17.below hb K17.lt
              replace K20 := K20.below hb K20.lt
              replace R1 := Lib.hid (R1.out.below hb)
              replace R3 := Lib.hid (R3.out.below hb)
              replace R4 := Lib.hid (R4.out.below hb)
              replace HB : Hid (Below w.heap.size w w60) := HB.out.trans (hb.mono HB.out.size)
              clear hb K29
              go_wp2_with fail
              go_roundg gk2
              case rel => exact ⟨i + 1, by omega, by go_num, K3, K17, K20, R1, R3, R4, HB⟩
              case measure => omega
            refine AllReadyH.cons rfl (fun K hK => ?_) AllReadyH.nil
            rw [if_pos (by rfl)]
            refine wp_allocXB rfl ?_
            have K29 := Blk.new x1 16 (fun _ => 0) 29
            have h29 : w.heap.size ≤ x1.heap.size := HB.out.size
            have l3 := K3.lt
            have l17 := K17.lt
            have l20 := K20.lt
            have lc3 := C3.1
            have lr1 := irow_lt R1.out
            have lr3 := krow_lt R3.out
            have lr4 := krow_lt R4.out
            replace K3 := K3.alloc (.cells (mk 16 fun _ => 0) 29)
            replace K17 := K17.alloc (.cells (mk 16 fun _ => 0) 29)
            replace K20 := K20.alloc (.cells (mk 16 fun _ => 0) 29)
            have hb : Below x1.heap.size x1 (x1.alloc (.cells (mk 16 fun _ => 0) 29)) := (Below.refl _ _).alloc (Nat.le_refl _) _
            replace R1 := Lib.hid (R1.out.below hb)
            replace R3 := Lib.hid (R3.out.below hb)
            replace R4 := Lib.hid (R4.out.below hb)
            replace C3 := C3.below hb
            replace HB : Hid (Below w.heap.size w (x1.alloc (.cells (mk 16 fun _ => 0) 29))) := HB.out.trans (hb.mono HB.out.size)
            clear hb
            clear hHeld
            generalize x1.alloc (.cells (mk 16 fun _ => 0) 29) = x2 at *
            generalize x1.heap.size = b29 at *
            refine hK.out _ _ ⟨K3, C3⟩ (fun hHeld => ?_)
            clear hK K
            try simp only [Act.put, List.setIfInBounds_toArray, List.set_cons_zero, List.set_cons_succ]
            refine wpAnyH_ready (rs := [5]) (by kernel_rfl) (by simp) ?_
            refine AllReadyH.cons rfl (fun K hK => ?_) AllReadyH.nil
            go_simp
            refine (HPT.out _).mono ?_
            rintro e x3 ⟨rfl, hb⟩
            replace K3 := K3.below hb K3.lt
            replace K17 := K17.below hb K17.lt
            replace K20 := K20.below hb K20.lt
            replace R1 := Lib.hid (R1.out.below hb)
            replace R3 := Lib.hid (R3.out.below hb)
            replace R4 := Lib.hid (R4.out.below hb)
            replace C3 := C3.below hb
            replace HB : Hid (Below w.heap.size w x3) := HB.out.trans (hb.mono HB.out.size)
            replace K29 := K29.below hb K29.lt
            clear hb hHeld
            go_wp2_with fail
            refine hK.out _ _ ⟨K3, C3⟩ (fun hHeld => ?_)
            clear hK K
            try simp only [Act.put, List.setIfInBounds_toArray, List.set_cons_zero, List.set_cons_succ]
            refine wpAnyH_take (i := 6) (oi := { dst := some 205, op := _, type := _, pos := _, after := _, guard := _ }) (v := .tuple #[.agg (mk 16 X), .bool true]) rfl (by kernel_rfl) (by kernel_rfl) (by kernel_rfl) (fun _ _ _ h => h) (Or.inl ⟨by rfl, by intro w hSw; clear hSw; go_simp; (try with_reducible rfl)⟩) (by assumption) ?_
            try simp only [Act.put, List.setIfInBounds_toArray, List.set_cons_zero, List.set_cons_succ]
            refine wpAnyH_take (i := 7) (oi := { dst := some 212, op := _, type := _, pos := _, after := _, guard := _ }) (v := .agg (mk 16 X)) rfl (by kernel_rfl) (by kernel_rfl) (by kernel_rfl) (fun _ _ _ h => h) (Or.inl ⟨by rfl, by intro w hSw; clear hSw; go_simp; (try with_reducible rfl)⟩) (by assumption) ?_
            try simp only [Act.put, List.setIfInBounds_toArray, List.set_cons_zero, List.set_cons_succ]
            refine wpAnyH_take (i := 8) (oi := { dst := some 213, op := _, type := _, pos := _, after := _, guard := _ }) (v := .bool true) rfl (by kernel_rfl) (by kernel_rfl) (by kernel_rfl) (fun _ _ _ h => h) (Or.inl ⟨by rfl, by intro w hSw; clear hSw; go_simp; (try with_reducible rfl)⟩) (by assumption) ?_
            try simp only [Act.put, List.setIfInBounds_toArray, List.set_cons_zero, List.set_cons_succ]
            refine wpAnyH_ready (rs := [10]) (by kernel_rfl) (by simp) ?_
            refine AllReadyH.cons rfl (fun K hK => ?_) AllReadyH.nil
            have st1 := run_store_blk (P := Try.prog) (g := X) K29
            have ms1 : (mk 16 X).size = 16 := mk_size 16 _
            go_simp
            clear st1 ms1
            have gr := grown_rowP K29 (mk 16 X)
            replace K3 := K3.rowOther b29 (mk 16 X) (by omega)
            replace K17 := K17.rowOther b29 (mk 16 X) (by omega)
            replace K20 := K20.rowOther b29 (mk 16 X) (by omega)
            replace C3 := C3.grownP gr (fun e => by have := Option.some.inj e; omega)
            replace R1 := Lib.hid (irow_set R1.out gr (by omega))
            replace R3 := Lib.hid (krow_set R3.out gr (by omega))
            replace R4 := Lib.hid (krow_set R4.out gr (by omega))
            replace HB : Hid (Below w.heap.size w (x3.setRow b29 (mk 16 X))) := below_setRow HB.out h29 _
            have K29 := K29.row 16 X
            clear hHeld gr
            generalize x3.setRow b29 (mk 16 X) = x9 at *
            refine hK.out _ _ ⟨K3, C3⟩ (fun hHeld => ?_)
            clear hK K
            try simp only [Act.put, List.setIfInBounds_toArray, List.set_cons_zero, List.set_cons_succ]
            refine wpAnyH_take (i := 11) (oi := { dst := some 30, op := _, type := _, pos := _, after := _, guard := _ }) (v := .bool true) rfl (by kernel_rfl) (by kernel_rfl) (by kernel_rfl) (fun _ _ _ h => h) (Or.inl ⟨by rfl, by intro w hSw; clear hSw; go_simp; (try with_reducible rfl)⟩) (by assumption) ?_
            try simp only [Act.put, List.setIfInBounds_toArray, List.set_cons_zero, List.set_cons_succ]
            refine wpAnyH_done (by kernel_rfl) ?_ _
            clear hHeld C3 l3 l17 l20 lc3 lr1 lr3 lr4 h29
            go_wp2_with ((with_reducible show wpList _ _ _ (Oper.mk _ (Op.load 29 _) _ _ _ _ :: _) _ _); refine loadB (K29) rfl rfl rfl ?_)
            refine (HOV.out _).mono ?_
            rintro e w60 ⟨rfl, hb⟩
            replace K3 := K3.below hb K3.lt
            replace K17 := K17.below hb K17.lt
            replace K20 := K20.below hb K20.lt
            replace R1 := Lib.hid (R1.out.below hb)
            replace R3 := Lib.hid (R3.out.below hb)
            replace R4 := Lib.hid (R4.out.below hb)
            replace HB : Hid (Below w.heap.size w w60) := HB.out.trans (hb.mono HB.out.size)
            clear hb K29
            go_wp2_with fail
            go_roundg gk2
            case rel => exact ⟨i + 1, by omega, by go_num, K3, K17, K20, R1, R3, R4, HB⟩
            case measure => omega
          | zero =>
            have hi : ¬ ((i : Int) < (N2 : Int)) := by omega
            obtain rfl : N2 = i := by omega
            clear hig R4 hi
            go_wp2_with ((with_reducible show wpList _ _ _ (Oper.mk _ (Op.load 29 _) _ _ _ _ :: _) _ _); refine loadB (K3) rfl rfl rfl ?_)
            clear R3
            refine (iWT.out _).mono ?_
            rintro e w71 ⟨rfl, hb⟩
            replace K3 := K3.below hb K3.lt
            replace K17 := K17.below hb K17.lt
            replace K20 := K20.below hb K20.lt
            replace R1 := Lib.hid (R1.out.below hb)
            replace HB : Hid (Below w.heap.size w w71) := HB.out.trans (hb.mono HB.out.size)
            clear hb
            have K33 := Blk.new (w71) 3 (plF Sp) 70
            replace K3 := K3.alloc (.cells (mk 3 (plF Sp)) 70)
            replace K17 := K17.alloc (.cells (mk 3 (plF Sp)) 70)
            replace K20 := K20.alloc (.cells (mk 3 (plF Sp)) 70)
            replace HB : Hid (Below w.heap.size w ((w71).alloc (.cells (mk 3 (plF Sp)) 70))) := HB.out.alloc HB.out.size _
            replace R1 := Lib.hid (R1.out.below ((Below.refl _ _).alloc (Nat.le_refl _) (.cells (mk 3 (plF Sp)) 70)))
            go_wp2_with (first | ((with_reducible show wpList _ _ _ (Oper.mk _ (Op.load 29 _) _ _ _ _ :: _) _ _); refine loadB (K3) rfl rfl rfl ?_) | ((with_reducible show wpList _ _ _ (Oper.mk _ (Op.load 29 _) _ _ _ (some _) :: _) _ _); refine loadgB (K3) rfl rfl rfl ?_))
            generalize (w71).alloc (.cells (mk 3 (plF Sp)) 70) = w72 at *
            refine (sWT.out _).mono ?_
            rintro e w73 ⟨rfl, hb⟩
            replace K3 := K3.below hb K3.lt
            replace K17 := K17.below hb K17.lt
            replace K20 := K20.below hb K20.lt
            replace K33 := K33.below hb K33.lt
            replace R1 := Lib.hid (R1.out.below hb)
            replace HB : Hid (Below w.heap.size w w73) := HB.out.trans (hb.mono HB.out.size)
            clear hb
            have K36 := Blk.new (w73) 3 (plF Sp) 70
            replace K3 := K3.alloc (.cells (mk 3 (plF Sp)) 70)
            replace K17 := K17.alloc (.cells (mk 3 (plF Sp)) 70)
            replace K20 := K20.alloc (.cells (mk 3 (plF Sp)) 70)
            replace K33 := K33.alloc (.cells (mk 3 (plF Sp)) 70)
            replace HB : Hid (Below w.heap.size w ((w73).alloc (.cells (mk 3 (plF Sp)) 70))) := HB.out.alloc HB.out.size _
            replace R1 := Lib.hid (R1.out.below ((Below.refl _ _).alloc (Nat.le_refl _) (.cells (mk 3 (plF Sp)) 70)))
            go_upto_region 36 with fail
            go_cut [264] from 264 to 264 (fun s264 wc => s264 = .bool false ∧ Blk wc b3 16 f 29 ∧ Blk wc b17 16 g 29 ∧ Blk wc b20 3 (plF (rfP R)) 70 ∧ IRow wc (.slice (some ⟨g1, 0, none⟩) NS c1) NS HS ∧ Below w.heap.size w wc)
            case first => as_aux_lemma =>
              cases So with
              | false =>
                go_wp2_with (first | ((with_reducible show wpList _ _ _ (Oper.mk _ (Op.load 70 _) _ _ _ _ :: _) _ _); refine loadA (K33) rfl rfl rfl ?_) | ((with_reducible show wpList _ _ _ (Oper.mk _ (Op.load 70 _) _ _ _ (some _) :: _) _ _); refine loadgA (K33) rfl rfl rfl ?_) | ((with_reducible show wpList _ _ _ (Oper.mk _ (Op.load 70 _) _ _ _ _ :: _) _ _); refine loadA (K36) rfl rfl rfl ?_) | ((with_reducible show wpList _ _ _ (Oper.mk _ (Op.load 70 _) _ _ _ (some _) :: _) _ _); refine loadgA (K36) rfl rfl rfl ?_))
                go_meet
                case rel => exact ⟨by first | rfl | (simp; omega), K3, K17, K20, R1.out, HB.out⟩
              | true =>
                have h := HWD.out rfl
                by_cases hn : 0 < (N2 : Int)
                · have hv0 : (Sv == 0) = true := by rw [h]; exact decide_eq_true hn
                  clear h
                  go_wp2_with (first | ((with_reducible show wpList _ _ _ (Oper.mk _ (Op.load 70 _) _ _ _ _ :: _) _ _); refine loadA (K33) rfl rfl rfl ?_) | ((with_reducible show wpList _ _ _ (Oper.mk _ (Op.load 70 _) _ _ _ (some _) :: _) _ _); refine loadgA (K33) rfl rfl rfl ?_) | ((with_reducible show wpList _ _ _ (Oper.mk _ (Op.load 70 _) _ _ _ _ :: _) _ _); refine loadA (K36) rfl rfl rfl ?_) | ((with_reducible show wpList _ _ _ (Oper.mk _ (Op.load 70 _) _ _ _ (some _) :: _) _ _); refine loadgA (K36) rfl rfl rfl ?_))
                  go_meet
                  case rel => exact ⟨by first | rfl | (simp; omega), K3, K17, K20, R1.out, HB.out⟩
                · have hv0 : (Sv == 0) = false := by rw [h]; exact decide_eq_false hn
                  clear h
                  go_wp2_with (first | ((with_reducible show wpList _ _ _ (Oper.mk _ (Op.load 70 _) _ _ _ _ :: _) _ _); refine loadA (K33) rfl rfl rfl ?_) | ((with_reducible show wpList _ _ _ (Oper.mk _ (Op.load 70 _) _ _ _ (some _) :: _) _ _); refine loadgA (K33) rfl rfl rfl ?_) | ((with_reducible show wpList _ _ _ (Oper.mk _ (Op.load 70 _) _ _ _ _ :: _) _ _); refine loadA (K36) rfl rfl rfl ?_) | ((with_reducible show wpList _ _ _ (Oper.mk _ (Op.load 70 _) _ _ _ (some _) :: _) _ _); refine loadgA (K36) rfl rfl rfl ?_))
                  go_meet
                  case rel => exact ⟨by first | rfl | (simp; omega), K3, K17, K20, R1.out, HB.out⟩
            case rest =>
              clear K3 K17 K20 R1 HB K33 K36
              obtain ⟨rfl, K3, K17, K20, r1, hb0⟩ := hcut
              have HB := Lib.hid hb0
              have R1 := Lib.hid r1
              clear hb0 r1
              cases R with
              | none =>
                clear K17 K20 HRF
                cases two with
                | false =>
                  go_wp2_with fail
                  go_ret
                  exact ⟨rfl, HB.out⟩
                | true =>
                  obtain ⟨NM, HM, hNM, iMV0, hrm0⟩ := HMV.out rfl
                  have iMV := Lib.hid iMV0
                  have HRM := Lib.hid hrm0
                  clear iMV0 hrm0 HMV
                  go_wp2_with ((with_reducible show wpList _ _ _ (Oper.mk _ (Op.load 29 _) _ _ _ _ :: _) _ _); refine loadB (K3) rfl rfl rfl ?_)
                  refine (iMV.out _).mono ?_
                  rintro e w90 ⟨g5, c5, rfl, hrow, hb⟩
                  replace K3 := K3.below hb K3.lt
                  replace R1 := Lib.hid (R1.out.below hb)
                  replace HB : Hid (Below w.heap.size w w90) := HB.out.trans (hb.mono HB.out.size)
                  clear hb
                  have R5 := Lib.hid hrow
                  clear hrow
                  go_wp2_with fail
                  go_loopg [48] NM (fun gk s48 wr => ∃ i : Nat, i + gk = NM ∧ s48 = .int .i64 i ∧ Blk wr b3 16 f 29 ∧ Hid (IRow wr (.slice (some ⟨g1, 0, none⟩) NS c1) NS HS) ∧ Hid (IRow wr (.slice (some ⟨g5, 0, none⟩) NM c5) NM HM) ∧ Hid (Below w.heap.size w wr))
                  case atStart => exact ⟨0, by omega, rfl, K3, R1, R5, HB⟩
                  case round =>
                    clear K3 R1 R5 HB
                    obtain ⟨i, hig, rfl, K3, R1, R5, HB⟩ := hrel
                    cases gk with
                    | succ gk2 =>
                      have hi8 : (i : Int) < (NM : Int) := by omega
                      have hi9 : i < NM := by omega
                      have hi0 : (0 : Int) ≤ (i : Int) := by omega
                      obtain ⟨P, hrp⟩ := HRM.out i hi9
                      obtain ⟨hb9, hh9⟩ : ∃ b, hasI HS NS (HM i) = b := ⟨_, rfl⟩
                      rw [hh9] at hrp
                      have HH9 := Lib.hid hh9
                      have HRP := Lib.hid hrp
                      clear hrp hh9
                      have C5 := irow_at R5.out
                      go_wp2_with fail
                      refine wp_region_held_drew (S := fun W => Blk W b3 16 f 29 ∧ CAt W g5 NM HM) (by kernel_rfl) (⟨K3.drew, C5.drew⟩) (fun hHeld => ?_)
                      replace K3 : Blk wr.drew b3 16 f 29 := K3.drew
                      replace R1 : Hid (IRow wr.drew (.slice (some ⟨g1, 0, none⟩) NS c1) NS HS) := R1.out.below ((Below.refl _ _).drew)
                      replace R5 : Hid (IRow wr.drew (.slice (some ⟨g5, 0, none⟩) NM c5) NM HM) := R5.out.below ((Below.refl _ _).drew)
                      replace HB : Hid (Below w.heap.size w wr.drew) := HB.out.drew
                      replace C5 : CAt wr.drew g5 NM HM := C5.drew
                      generalize wr.drew = x1 at *
                      refine wpAnyH_take (i := 0) (oi := { dst := some 315, op := _, type := _, pos := _, after := _, guard := _ }) (v := .agg (mk 16 f)) rfl (by kernel_rfl) (by kernel_rfl) (by kernel_rfl) (fun _ _ _ h => h) (Or.inl ⟨by rfl, fun _ q => execB q.1 rfl rfl⟩) (by assumption) ?_
                      try simp only [Act.put, List.setIfInBounds_toArray, List.set_cons_zero, List.set_cons_succ]
                      refine wpAnyH_take (i := 1) (oi := { dst := some 316, op := _, type := _, pos := _, after := _, guard := _ }) (v := .slice (some ⟨g5, 0, none⟩) NM c5) rfl (by kernel_rfl) (by kernel_rfl) (by kernel_rfl) (fun _ _ _ h => h) (Or.inl ⟨by rfl, by intro w hSw; clear hSw; go_simp; (try with_reducible rfl)⟩) (by assumption) ?_
                      try simp only [Act.put, List.setIfInBounds_toArray, List.set_cons_zero, List.set_cons_succ]
                      refine wpAnyH_take (i := 2) (oi := { dst := some 317, op := _, type := _, pos := _, after := _, guard := _ }) (v := .int .i64 (i : Int)) rfl (by kernel_rfl) (by kernel_rfl) (by kernel_rfl) (fun _ _ _ h => h) (Or.inl ⟨by rfl, by intro w hSw; clear hSw; go_simp; (try with_reducible rfl)⟩) (by assumption) ?_
                      try simp only [Act.put, List.setIfInBounds_toArray, List.set_cons_zero, List.set_cons_succ]
                      refine wpAnyH_take (i := 3) (oi := { dst := some 318, op := _, type := _, pos := _, after := _, guard := _ }) (v := .pointer (some ⟨g5, i, none⟩)) rfl (by kernel_rfl) (by kernel_rfl) (by kernel_rfl) (fun _ _ _ h => h) (Or.inl ⟨by rfl, by intro w hSw; clear hSw; go_simp; (try with_reducible rfl)⟩) (by assumption) ?_
                      try simp only [Act.put, List.setIfInBounds_toArray, List.set_cons_zero, List.set_cons_succ]
                      refine wpAnyH_take (i := 4) (oi := { dst := some 319, op := _, type := _, pos := _, after := _, guard := _ }) (v := .int .i64 (HM i)) rfl (by kernel_rfl) (by kernel_rfl) (by kernel_rfl) (fun _ _ _ h => h) (Or.inl ⟨by rfl, by intro W q; have c0 := q.2.2 i (by omega); clear q; go_simp⟩) (by assumption) ?_
                      try simp only [Act.put, List.setIfInBounds_toArray, List.set_cons_zero, List.set_cons_succ]
                      refine wpAnyH_take (i := 5) (oi := { dst := some 320, op := _, type := _, pos := _, after := _, guard := _ }) (v := .int .i64 n) rfl (by kernel_rfl) (by kernel_rfl) (by kernel_rfl) (fun _ _ _ h => h) (Or.inl ⟨by rfl, by intro w hSw; clear hSw; go_simp; (try with_reducible rfl)⟩) (by assumption) ?_
                      try simp only [Act.put, List.setIfInBounds_toArray, List.set_cons_zero, List.set_cons_succ]
                      refine wpAnyH_ready (rs := [6, 10]) (by kernel_rfl) (by simp) ?_
                      refine AllReadyH.cons rfl (fun K hK => ?_) ?_
                      · go_simp
                        refine (HRP.out _).mono ?_
                        rintro e x2 ⟨rfl, hb⟩
                        replace K3 := K3.below hb K3.lt
                        replace R1 := Lib.hid (R1.out.below hb)
                        replace R5 := Lib.hid (R5.out.below hb)
                        replace C5 := C5.below hb
                        replace HB : Hid (Below w.heap.size w x2) := HB.out.trans (hb.mono HB.out.size)
                        clear hb hHeld
                        go_wp2_with fail
                        refine hK.out _ _ ⟨K3, C5⟩ (fun hHeld => ?_)
                        clear hK K
                        try simp only [Act.put, List.setIfInBounds_toArray, List.set_cons_zero, List.set_cons_succ]
                        refine wpAnyH_take (i := 7) (oi := { dst := some 314, op := _, type := _, pos := _, after := _, guard := _ }) (v := .tuple #[.agg (mk 3 P), .bool (!hb9)]) rfl (by kernel_rfl) (by kernel_rfl) (by kernel_rfl) (fun _ _ _ h => h) (Or.inl ⟨by rfl, by intro w hSw; clear hSw; go_simp; (try with_reducible rfl)⟩) (by assumption) ?_
                        try simp only [Act.put, List.setIfInBounds_toArray, List.set_cons_zero, List.set_cons_succ]
                        refine wpAnyH_take (i := 8) (oi := { dst := some 322, op := _, type := _, pos := _, after := _, guard := _ }) (v := .agg (mk 3 P)) rfl (by kernel_rfl) (by kernel_rfl) (by kernel_rfl) (fun _ _ _ h => h) (Or.inl ⟨by rfl, by intro w hSw; clear hSw; go_simp; (try with_reducible rfl)⟩) (by assumption) ?_
                        try simp only [Act.put, List.setIfInBounds_toArray, List.set_cons_zero, List.set_cons_succ]
                        refine wpAnyH_take (i := 9) (oi := { dst := some 323, op := _, type := _, pos := _, after := _, guard := _ }) (v := .bool (!hb9)) rfl (by kernel_rfl) (by kernel_rfl) (by kernel_rfl) (fun _ _ _ h => h) (Or.inl ⟨by rfl, by intro w hSw; clear hSw; go_simp; (try with_reducible rfl)⟩) (by assumption) ?_
                        try simp only [Act.put, List.setIfInBounds_toArray, List.set_cons_zero, List.set_cons_succ]
                        refine wpAnyH_ready (rs := [10]) (by kernel_rfl) (by simp) ?_
                        refine AllReadyH.cons rfl (fun K hK => ?_) AllReadyH.nil
                        rw [if_pos (by rfl)]
                        refine wp_allocA8 rfl ?_
                        have K49 := Blk.new x2 3 (fun _ => 0) 70
                        have h49 : w.heap.size ≤ x2.heap.size := HB.out.size
                        have l3 := K3.lt
                        have lr1 := irow_lt R1.out
                        have lr5 := irow_lt R5.out
                        have hb : Below x2.heap.size x2 (x2.alloc (.cells (mk 3 fun _ => 0) 70)) := (Below.refl _ _).alloc (Nat.le_refl _) _
                        replace K3 := K3.below hb K3.lt
                        replace R1 := Lib.hid (R1.out.below hb)
                        replace R5 := Lib.hid (R5.out.below hb)
                        replace C5 := C5.below hb
                        replace HB : Hid (Below w.heap.size w (x2.alloc (.cells (mk 3 fun _ => 0) 70))) := HB.out.trans (hb.mono HB.out.size)
                        clear hb hHeld
                        generalize x2.alloc (.cells (mk 3 fun _ => 0) 70) = x3 at *
                        generalize x2.heap.size = b49 at *
                        refine hK.out _ _ ⟨K3, C5⟩ (fun hHeld => ?_)
                        clear hK K
                        try simp only [Act.put, List.setIfInBounds_toArray, List.set_cons_zero, List.set_cons_succ]
                        refine wpAnyH_ready (rs := [11]) (by kernel_rfl) (by simp) ?_
                        refine AllReadyH.cons rfl (fun K hK => ?_) AllReadyH.nil
                        have st1 := run_store_blk (P := Try.prog) (g := P) K49
                        have ms1 : (mk 3 P).size = 3 := mk_size 3 _
                        go_simp
                        clear st1 ms1
                        have gr := grown_rowP K49 (mk 3 P)
                        replace K3 := K3.rowOther b49 (mk 3 P) (by omega)
                        replace C5 := C5.grownP gr (fun e => by have := Option.some.inj e; omega)
                        replace R1 := Lib.hid (irow_set R1.out gr (by omega))
                        replace R5 := Lib.hid (irow_set R5.out gr (by omega))
                        replace HB : Hid (Below w.heap.size w (x3.setRow b49 (mk 3 P))) := below_setRow HB.out h49 _
                        clear hHeld gr K49
                        generalize x3.setRow b49 (mk 3 P) = x9 at *
                        refine hK.out _ _ ⟨K3, C5⟩ (fun hHeld => ?_)
                        clear hK K
                        try simp only [Act.put, List.setIfInBounds_toArray, List.set_cons_zero, List.set_cons_succ]
                        refine wpAnyH_take (i := 12) (oi := { dst := some 50, op := _, type := _, pos := _, after := _, guard := _ }) (v := .bool (!hb9)) rfl (by kernel_rfl) (by kernel_rfl) (by kernel_rfl) (fun _ _ _ h => h) (Or.inl ⟨by rfl, by intro w hSw; clear hSw; go_simp; (try with_reducible rfl)⟩) (by assumption) ?_
                        try simp only [Act.put, List.setIfInBounds_toArray, List.set_cons_zero, List.set_cons_succ]
                        refine wpAnyH_done (by kernel_rfl) ?_ _
                        clear hHeld l3 lr1 lr5 h49
                        have c5 := C5.2 i (by omega)
                        clear C5
                        go_wp2_with fail
                        refine (rHas_any _ NS HS (HM i) _ R1.out (by omega)).mono ?_
                        rintro e w99 ⟨rfl, rfl⟩
                        rw [HH9.out]
                        cases hb9 with
                        | false =>
                          go_wp2_with fail
                          go_roundg gk2
                          case rel => exact ⟨i + 1, by omega, by go_num, K3, R1, R5, HB⟩
                          case measure => omega
                        | true =>
                          go_wp2_with fail
                          go_roundg gk2
                          case rel => exact ⟨i + 1, by omega, by go_num, K3, R1, R5, HB⟩
                          case measure => omega
                      refine AllReadyH.cons rfl (fun K hK => ?_) AllReadyH.nil
                      rw [if_pos (by rfl)]
                      refine wp_allocA8 rfl ?_
                      have K49 := Blk.new x1 3 (fun _ => 0) 70
                      have h49 : w.heap.size ≤ x1.heap.size := HB.out.size
                      have l3 := K3.lt
                      have lr1 := irow_lt R1.out
                      have lr5 := irow_lt R5.out
                      have hb : Below x1.heap.size x1 (x1.alloc (.cells (mk 3 fun _ => 0) 70)) := (Below.refl _ _).alloc (Nat.le_refl _) _
                      replace K3 := K3.below hb K3.lt
                      replace R1 := Lib.hid (R1.out.below hb)
                      replace R5 := Lib.hid (R5.out.below hb)
                      replace C5 := C5.below hb
                      replace HB : Hid (Below w.heap.size w (x1.alloc (.cells (mk 3 fun _ => 0) 70))) := HB.out.trans (hb.mono HB.out.size)
                      clear hb hHeld
                      generalize x1.alloc (.cells (mk 3 fun _ => 0) 70) = x2 at *
                      generalize x1.heap.size = b49 at *
                      refine hK.out _ _ ⟨K3, C5⟩ (fun hHeld => ?_)
                      clear hK K
                      try simp only [Act.put, List.setIfInBounds_toArray, List.set_cons_zero, List.set_cons_succ]
                      refine wpAnyH_ready (rs := [6]) (by kernel_rfl) (by simp) ?_
                      refine AllReadyH.cons rfl (fun K hK => ?_) AllReadyH.nil
                      go_simp
                      refine (HRP.out _).mono ?_
                      rintro e x3 ⟨rfl, hb⟩
                      replace K3 := K3.below hb K3.lt
                      replace R1 := Lib.hid (R1.out.below hb)
                      replace R5 := Lib.hid (R5.out.below hb)
                      replace C5 := C5.below hb
                      replace HB : Hid (Below w.heap.size w x3) := HB.out.trans (hb.mono HB.out.size)
                      replace K49 := K49.below hb K49.lt
                      clear hb hHeld
                      go_wp2_with fail
                      refine hK.out _ _ ⟨K3, C5⟩ (fun hHeld => ?_)
                      clear hK K
                      try simp only [Act.put, List.setIfInBounds_toArray, List.set_cons_zero, List.set_cons_succ]
                      refine wpAnyH_take (i := 7) (oi := { dst := some 314, op := _, type := _, pos := _, after := _, guard := _ }) (v := .tuple #[.agg (mk 3 P), .bool (!hb9)]) rfl (by kernel_rfl) (by kernel_rfl) (by kernel_rfl) (fun _ _ _ h => h) (Or.inl ⟨by rfl, by intro w hSw; clear hSw; go_simp; (try with_reducible rfl)⟩) (by assumption) ?_
                      try simp only [Act.put, List.setIfInBounds_toArray, List.set_cons_zero, List.set_cons_succ]
                      refine wpAnyH_take (i := 8) (oi := { dst := some 322, op := _, type := _, pos := _, after := _, guard := _ }) (v := .agg (mk 3 P)) rfl (by kernel_rfl) (by kernel_rfl) (by kernel_rfl) (fun _ _ _ h => h) (Or.inl ⟨by rfl, by intro w hSw; clear hSw; go_simp; (try with_reducible rfl)⟩) (by assumption) ?_
                      try simp only [Act.put, List.setIfInBounds_toArray, List.set_cons_zero, List.set_cons_succ]
                      refine wpAnyH_take (i := 9) (oi := { dst := some 323, op := _, type := _, pos := _, after := _, guard := _ }) (v := .bool (!hb9)) rfl (by kernel_rfl) (by kernel_rfl) (by kernel_rfl) (fun _ _ _ h => h) (Or.inl ⟨by rfl, by intro w hSw; clear hSw; go_simp; (try with_reducible rfl)⟩) (by assumption) ?_
                      try simp only [Act.put, List.setIfInBounds_toArray, List.set_cons_zero, List.set_cons_succ]
                      refine wpAnyH_ready (rs := [11]) (by kernel_rfl) (by simp) ?_
                      refine AllReadyH.cons rfl (fun K hK => ?_) AllReadyH.nil
                      have st1 := run_store_blk (P := Try.prog) (g := P) K49
                      have ms1 : (mk 3 P).size = 3 := mk_size 3 _
                      go_simp
                      clear st1 ms1
                      have gr := grown_rowP K49 (mk 3 P)
                      replace K3 := K3.rowOther b49 (mk 3 P) (by omega)
                      replace C5 := C5.grownP gr (fun e => by have := Option.some.inj e; omega)
                      replace R1 := Lib.hid (irow_set R1.out gr (by omega))
                      replace R5 := Lib.hid (irow_set R5.out gr (by omega))
                      replace HB : Hid (Below w.heap.size w (x3.setRow b49 (mk 3 P))) := below_setRow HB.out h49 _
                      clear hHeld gr K49
                      generalize x3.setRow b49 (mk 3 P) = x9 at *
                      refine hK.out _ _ ⟨K3, C5⟩ (fun hHeld => ?_)
                      clear hK K
                      try simp only [Act.put, List.setIfInBounds_toArray, List.set_cons_zero, List.set_cons_succ]
                      refine wpAnyH_take (i := 12) (oi := { dst := some 50, op := _, type := _, pos := _, after := _, guard := _ }) (v := .bool (!hb9)) rfl (by kernel_rfl) (by kernel_rfl) (by kernel_rfl) (fun _ _ _ h => h) (Or.inl ⟨by rfl, by intro w hSw; clear hSw; go_simp; (try with_reducible rfl)⟩) (by assumption) ?_
                      try simp only [Act.put, List.setIfInBounds_toArray, List.set_cons_zero, List.set_cons_succ]
                      refine wpAnyH_done (by kernel_rfl) ?_ _
                      clear hHeld l3 lr1 lr5 h49
                      have c5 := C5.2 i (by omega)
                      clear C5
                      go_wp2_with fail
                      refine (rHas_any _ NS HS (HM i) _ R1.out (by omega)).mono ?_
                      rintro e w99 ⟨rfl, rfl⟩
                      rw [HH9.out]
                      cases hb9 with
                      | false =>
                        go_wp2_with fail
                        go_roundg gk2
                        case rel => exact ⟨i + 1, by omega, by go_num, K3, R1, R5, HB⟩
                        case measure => omega
                      | true =>
                        go_wp2_with fail
                        go_roundg gk2
                        case rel => exact ⟨i + 1, by omega, by go_num, K3, R1, R5, HB⟩
                        case measure => omega
                    | zero =>
                      have hi : ¬ ((i : Int) < (NM : Int)) := by omega
                      go_wp2_with fail
                      go_ret
                      exact ⟨rfl, HB.out⟩
              | some p =>
                obtain ⟨⟨k1, k3⟩, s1, s2, hVs, hp, l1, l2⟩ := HRF.out p rfl
                obtain ⟨t1, t2⟩ := place_put8 hVs hp
                have iSL := Lib.hid (implSlide_any g d)
                have iP2 := Lib.hid (implPt_any (slideB g d.toNat) (plF p))
                have iL2 := Lib.hid (implLasts_any (plB (slideB g d.toNat) p) (k - 1))
                rw [s1, s2] at iSL
                rw [t1, t2] at iP2
                rw [l1, l2] at iL2
                have hwk : IntKind.i64.wrap (k - 1) = k - 1 := IntWalk.i64_in _ (by omega)
                clear s1 s2 hVs hp l1 l2 t1 t2 HRF
                generalize plB (slideB g d.toNat) p = X2 at *
                generalize slideB g d.toNat = X1 at *
                generalize slideRS g d = sc at *
                replace K20 : Blk _ b20 3 (plF p) 70 := K20
                go_wp2_with (first | ((with_reducible show wpList _ _ _ (Oper.mk _ (Op.load 29 _) _ _ _ _ :: _) _ _); refine loadB (K17) rfl rfl rfl ?_) | ((with_reducible show wpList _ _ _ (Oper.mk _ (Op.load 29 _) _ _ _ (some _) :: _) _ _); refine loadgB (K17) rfl rfl rfl ?_))
                refine (iSL.out _).mono ?_
                rintro e w83 ⟨rfl, hb⟩
                replace K3 := K3.below hb K3.lt
                replace K17 := K17.below hb K17.lt
                replace K20 := K20.below hb K20.lt
                replace R1 := Lib.hid (R1.out.below hb)
                replace HB : Hid (Below w.heap.size w w83) := HB.out.trans (hb.mono HB.out.size)
                clear hb
                have K39 := Blk.new (w83) 16 (X1) 29
                replace K3 := K3.alloc (.cells (mk 16 (X1)) 29)
                replace K17 := K17.alloc (.cells (mk 16 (X1)) 29)
                replace K20 := K20.alloc (.cells (mk 16 (X1)) 29)
                replace HB : Hid (Below w.heap.size w ((w83).alloc (.cells (mk 16 (X1)) 29))) := HB.out.alloc HB.out.size _
                replace R1 := Lib.hid (R1.out.below ((Below.refl _ _).alloc (Nat.le_refl _) (.cells (mk 16 (X1)) 29)))
                go_wp2_with (first | ((with_reducible show wpList _ _ _ (Oper.mk _ (Op.load 29 _) _ _ _ _ :: _) _ _); refine loadB (K39) rfl rfl rfl ?_) | ((with_reducible show wpList _ _ _ (Oper.mk _ (Op.load 29 _) _ _ _ (some _) :: _) _ _); refine loadgB (K39) rfl rfl rfl ?_) | ((with_reducible show wpList _ _ _ (Oper.mk _ (Op.load 70 _) _ _ _ _ :: _) _ _); refine loadA (K20) rfl rfl rfl ?_) | ((with_reducible show wpList _ _ _ (Oper.mk _ (Op.load 70 _) _ _ _ (some _) :: _) _ _); refine loadgA (K20) rfl rfl rfl ?_))
                generalize (w83).alloc (.cells (mk 16 (X1)) 29) = w84 at *
                refine (iP2.out _).mono ?_
                rintro e w85 ⟨rfl, hb⟩
                replace K3 := K3.below hb K3.lt
                replace K17 := K17.below hb K17.lt
                replace K20 := K20.below hb K20.lt
                replace K39 := K39.below hb K39.lt
                replace R1 := Lib.hid (R1.out.below hb)
                replace HB : Hid (Below w.heap.size w w85) := HB.out.trans (hb.mono HB.out.size)
                clear hb
                have K42 := Blk.new (w85) 16 (X2) 29
                replace K3 := K3.alloc (.cells (mk 16 (X2)) 29)
                replace K17 := K17.alloc (.cells (mk 16 (X2)) 29)
                replace K20 := K20.alloc (.cells (mk 16 (X2)) 29)
                replace K39 := K39.alloc (.cells (mk 16 (X2)) 29)
                replace HB : Hid (Below w.heap.size w ((w85).alloc (.cells (mk 16 (X2)) 29))) := HB.out.alloc HB.out.size _
                replace R1 := Lib.hid (R1.out.below ((Below.refl _ _).alloc (Nat.le_refl _) (.cells (mk 16 (X2)) 29)))
                go_wp2_with (first | ((with_reducible show wpList _ _ _ (Oper.mk _ (Op.load 29 _) _ _ _ _ :: _) _ _); refine loadB (K42) rfl rfl rfl ?_) | ((with_reducible show wpList _ _ _ (Oper.mk _ (Op.load 29 _) _ _ _ (some _) :: _) _ _); refine loadgB (K42) rfl rfl rfl ?_))
                generalize (w85).alloc (.cells (mk 16 (X2)) 29) = w86 at *
                refine (iL2.out _).mono ?_
                rintro e w87 ⟨rfl, hb⟩
                replace K3 := K3.below hb K3.lt
                replace K17 := K17.below hb K17.lt
                replace K20 := K20.below hb K20.lt
                replace K39 := K39.below hb K39.lt
                replace K42 := K42.below hb K42.lt
                replace R1 := Lib.hid (R1.out.below hb)
                replace HB : Hid (Below w.heap.size w w87) := HB.out.trans (hb.mono HB.out.size)
                clear hb
                clear K39 K42 K17 K20
                cases two with
                | false =>
                  go_wp2_with fail
                  go_ret
                  exact ⟨rfl, HB.out⟩
                | true =>
                  obtain ⟨NM, HM, hNM, iMV0, hrm0⟩ := HMV.out rfl
                  have iMV := Lib.hid iMV0
                  have HRM := Lib.hid hrm0
                  clear iMV0 hrm0 HMV
                  go_wp2_with ((with_reducible show wpList _ _ _ (Oper.mk _ (Op.load 29 _) _ _ _ _ :: _) _ _); refine loadB (K3) rfl rfl rfl ?_)
                  refine (iMV.out _).mono ?_
                  rintro e w90 ⟨g5, c5, rfl, hrow, hb⟩
                  replace K3 := K3.below hb K3.lt
                  replace R1 := Lib.hid (R1.out.below hb)
                  replace HB : Hid (Below w.heap.size w w90) := HB.out.trans (hb.mono HB.out.size)
                  clear hb
                  have R5 := Lib.hid hrow
                  clear hrow
                  go_wp2_with fail
                  go_loopg [48] NM (fun gk s48 wr => ∃ i : Nat, i + gk = NM ∧ s48 = .int .i64 i ∧ Blk wr b3 16 f 29 ∧ Hid (IRow wr (.slice (some ⟨g1, 0, none⟩) NS c1) NS HS) ∧ Hid (IRow wr (.slice (some ⟨g5, 0, none⟩) NM c5) NM HM) ∧ Hid (Below w.heap.size w wr))
                  case atStart => exact ⟨0, by omega, rfl, K3, R1, R5, HB⟩
                  case round =>
                    clear K3 R1 R5 HB
                    obtain ⟨i, hig, rfl, K3, R1, R5, HB⟩ := hrel
                    cases gk with
                    | succ gk2 =>
                      have hi8 : (i : Int) < (NM : Int) := by omega
                      have hi9 : i < NM := by omega
                      have hi0 : (0 : Int) ≤ (i : Int) := by omega
                      obtain ⟨P, hrp⟩ := HRM.out i hi9
                      obtain ⟨hb9, hh9⟩ : ∃ b, hasI HS NS (HM i) = b := ⟨_, rfl⟩
                      rw [hh9] at hrp
                      have HH9 := Lib.hid hh9
                      have HRP := Lib.hid hrp
                      clear hrp hh9
                      have C5 := irow_at R5.out
                      go_wp2_with fail
                      refine wp_region_held_drew (S := fun W => Blk W b3 16 f 29 ∧ CAt W g5 NM HM) (by kernel_rfl) (⟨K3.drew, C5.drew⟩) (fun hHeld => ?_)
                      replace K3 : Blk wr.drew b3 16 f 29 := K3.drew
                      replace R1 : Hid (IRow wr.drew (.slice (some ⟨g1, 0, none⟩) NS c1) NS HS) := R1.out.below ((Below.refl _ _).drew)
                      replace R5 : Hid (IRow wr.drew (.slice (some ⟨g5, 0, none⟩) NM c5) NM HM) := R5.out.below ((Below.refl _ _).drew)
                      replace HB : Hid (Below w.heap.size w wr.drew) := HB.out.drew
                      replace C5 : CAt wr.drew g5 NM HM := C5.drew
                      generalize wr.drew = x1 at *
                      refine wpAnyH_take (i := 0) (oi := { dst := some 315, op := _, type := _, pos := _, after := _, guard := _ }) (v := .agg (mk 16 f)) rfl (by kernel_rfl) (by kernel_rfl) (by kernel_rfl) (fun _ _ _ h => h) (Or.inl ⟨by rfl, fun _ q => execB q.1 rfl rfl⟩) (by assumption) ?_
                      try simp only [Act.put, List.setIfInBounds_toArray, List.set_cons_zero, List.set_cons_succ]
                      refine wpAnyH_take (i := 1) (oi := { dst := some 316, op := _, type := _, pos := _, after := _, guard := _ }) (v := .slice (some ⟨g5, 0, none⟩) NM c5) rfl (by kernel_rfl) (by kernel_rfl) (by kernel_rfl) (fun _ _ _ h => h) (Or.inl ⟨by rfl, by intro w hSw; clear hSw; go_simp; (try with_reducible rfl)⟩) (by assumption) ?_
                      try simp only [Act.put, List.setIfInBounds_toArray, List.set_cons_zero, List.set_cons_succ]
                      refine wpAnyH_take (i := 2) (oi := { dst := some 317, op := _, type := _, pos := _, after := _, guard := _ }) (v := .int .i64 (i : Int)) rfl (by kernel_rfl) (by kernel_rfl) (by kernel_rfl) (fun _ _ _ h => h) (Or.inl ⟨by rfl, by intro w hSw; clear hSw; go_simp; (try with_reducible rfl)⟩) (by assumption) ?_
                      try simp only [Act.put, List.setIfInBounds_toArray, List.set_cons_zero, List.set_cons_succ]
                      refine wpAnyH_take (i := 3) (oi := { dst := some 318, op := _, type := _, pos := _, after := _, guard := _ }) (v := .pointer (some ⟨g5, i, none⟩)) rfl (by kernel_rfl) (by kernel_rfl) (by kernel_rfl) (fun _ _ _ h => h) (Or.inl ⟨by rfl, by intro w hSw; clear hSw; go_simp; (try with_reducible rfl)⟩) (by assumption) ?_
                      try simp only [Act.put, List.setIfInBounds_toArray, List.set_cons_zero, List.set_cons_succ]
                      refine wpAnyH_take (i := 4) (oi := { dst := some 319, op := _, type := _, pos := _, after := _, guard := _ }) (v := .int .i64 (HM i)) rfl (by kernel_rfl) (by kernel_rfl) (by kernel_rfl) (fun _ _ _ h => h) (Or.inl ⟨by rfl, by intro W q; have c0 := q.2.2 i (by omega); clear q; go_simp⟩) (by assumption) ?_
                      try simp only [Act.put, List.setIfInBounds_toArray, List.set_cons_zero, List.set_cons_succ]
                      refine wpAnyH_take (i := 5) (oi := { dst := some 320, op := _, type := _, pos := _, after := _, guard := _ }) (v := .int .i64 n) rfl (by kernel_rfl) (by kernel_rfl) (by kernel_rfl) (fun _ _ _ h => h) (Or.inl ⟨by rfl, by intro w hSw; clear hSw; go_simp; (try with_reducible rfl)⟩) (by assumption) ?_
                      try simp only [Act.put, List.setIfInBounds_toArray, List.set_cons_zero, List.set_cons_succ]
                      refine wpAnyH_ready (rs := [6, 10]) (by kernel_rfl) (by simp) ?_
                      refine AllReadyH.cons rfl (fun K hK => ?_) ?_
                      · go_simp
                        refine (HRP.out _).mono ?_
                        rintro e x2 ⟨rfl, hb⟩
                        replace K3 := K3.below hb K3.lt
                        replace R1 := Lib.hid (R1.out.below hb)
                        replace R5 := Lib.hid (R5.out.below hb)
                        replace C5 := C5.below hb
                        replace HB : Hid (Below w.heap.size w x2) := HB.out.trans (hb.mono HB.out.size)
                        clear hb hHeld
                        go_wp2_with fail
                        refine hK.out _ _ ⟨K3, C5⟩ (fun hHeld => ?_)
                        clear hK K
                        try simp only [Act.put, List.setIfInBounds_toArray, List.set_cons_zero, List.set_cons_succ]
                        refine wpAnyH_take (i := 7) (oi := { dst := some 314, op := _, type := _, pos := _, after := _, guard := _ }) (v := .tuple #[.agg (mk 3 P), .bool (!hb9)]) rfl (by kernel_rfl) (by kernel_rfl) (by kernel_rfl) (fun _ _ _ h => h) (Or.inl ⟨by rfl, by intro w hSw; clear hSw; go_simp; (try with_reducible rfl)⟩) (by assumption) ?_
                        try simp only [Act.put, List.setIfInBounds_toArray, List.set_cons_zero, List.set_cons_succ]
                        refine wpAnyH_take (i := 8) (oi := { dst := some 322, op := _, type := _, pos := _, after := _, guard := _ }) (v := .agg (mk 3 P)) rfl (by kernel_rfl) (by kernel_rfl) (by kernel_rfl) (fun _ _ _ h => h) (Or.inl ⟨by rfl, by intro w hSw; clear hSw; go_simp; (try with_reducible rfl)⟩) (by assumption) ?_
                        try simp only [Act.put, List.setIfInBounds_toArray, List.set_cons_zero, List.set_cons_succ]
                        refine wpAnyH_take (i := 9) (oi := { dst := some 323, op := _, type := _, pos := _, after := _, guard := _ }) (v := .bool (!hb9)) rfl (by kernel_rfl) (by kernel_rfl) (by kernel_rfl) (fun _ _ _ h => h) (Or.inl ⟨by rfl, by intro w hSw; clear hSw; go_simp; (try with_reducible rfl)⟩) (by assumption) ?_
                        try simp only [Act.put, List.setIfInBounds_toArray, List.set_cons_zero, List.set_cons_succ]
                        refine wpAnyH_ready (rs := [10]) (by kernel_rfl) (by simp) ?_
                        refine AllReadyH.cons rfl (fun K hK => ?_) AllReadyH.nil
                        rw [if_pos (by rfl)]
                        refine wp_allocA8 rfl ?_
                        have K49 := Blk.new x2 3 (fun _ => 0) 70
                        have h49 : w.heap.size ≤ x2.heap.size := HB.out.size
                        have l3 := K3.lt
                        have lr1 := irow_lt R1.out
                        have lr5 := irow_lt R5.out
                        have hb : Below x2.heap.size x2 (x2.alloc (.cells (mk 3 fun _ => 0) 70)) := (Below.refl _ _).alloc (Nat.le_refl _) _
                        replace K3 := K3.below hb K3.lt
                        replace R1 := Lib.hid (R1.out.below hb)
                        replace R5 := Lib.hid (R5.out.below hb)
                        replace C5 := C5.below hb
                        replace HB : Hid (Below w.heap.size w (x2.alloc (.cells (mk 3 fun _ => 0) 70))) := HB.out.trans (hb.mono HB.out.size)
                        clear hb hHeld
                        generalize x2.alloc (.cells (mk 3 fun _ => 0) 70) = x3 at *
                        generalize x2.heap.size = b49 at *
                        refine hK.out _ _ ⟨K3, C5⟩ (fun hHeld => ?_)
                        clear hK K
                        try simp only [Act.put, List.setIfInBounds_toArray, List.set_cons_zero, List.set_cons_succ]
                        refine wpAnyH_ready (rs := [11]) (by kernel_rfl) (by simp) ?_
                        refine AllReadyH.cons rfl (fun K hK => ?_) AllReadyH.nil
                        have st1 := run_store_blk (P := Try.prog) (g := P) K49
                        have ms1 : (mk 3 P).size = 3 := mk_size 3 _
                        go_simp
                        clear st1 ms1
                        have gr := grown_rowP K49 (mk 3 P)
                        replace K3 := K3.rowOther b49 (mk 3 P) (by omega)
                        replace C5 := C5.grownP gr (fun e => by have := Option.some.inj e; omega)
                        replace R1 := Lib.hid (irow_set R1.out gr (by omega))
                        replace R5 := Lib.hid (irow_set R5.out gr (by omega))
                        replace HB : Hid (Below w.heap.size w (x3.setRow b49 (mk 3 P))) := below_setRow HB.out h49 _
                        clear hHeld gr K49
                        generalize x3.setRow b49 (mk 3 P) = x9 at *
                        refine hK.out _ _ ⟨K3, C5⟩ (fun hHeld => ?_)
                        clear hK K
                        try simp only [Act.put, List.setIfInBounds_toArray, List.set_cons_zero, List.set_cons_succ]
                        refine wpAnyH_take (i := 12) (oi := { dst := some 50, op := _, type := _, pos := _, after := _, guard := _ }) (v := .bool (!hb9)) rfl (by kernel_rfl) (by kernel_rfl) (by kernel_rfl) (fun _ _ _ h => h) (Or.inl ⟨by rfl, by intro w hSw; clear hSw; go_simp; (try with_reducible rfl)⟩) (by assumption) ?_
                        try simp only [Act.put, List.setIfInBounds_toArray, List.set_cons_zero, List.set_cons_succ]
                        refine wpAnyH_done (by kernel_rfl) ?_ _
                        clear hHeld l3 lr1 lr5 h49
                        have c5 := C5.2 i (by omega)
                        clear C5
                        go_wp2_with fail
                        refine (rHas_any _ NS HS (HM i) _ R1.out (by omega)).mono ?_
                        rintro e w99 ⟨rfl, rfl⟩
                        rw [HH9.out]
                        cases hb9 with
                        | false =>
                          go_wp2_with fail
                          go_roundg gk2
                          case rel => exact ⟨i + 1, by omega, by go_num, K3, R1, R5, HB⟩
                          case measure => omega
                        | true =>
                          go_wp2_with fail
                          go_roundg gk2
                          case rel => exact ⟨i + 1, by omega, by go_num, K3, R1, R5, HB⟩
                          case measure => omega
                      refine AllReadyH.cons rfl (fun K hK => ?_) AllReadyH.nil
                      rw [if_pos (by rfl)]
                      refine wp_allocA8 rfl ?_
                      have K49 := Blk.new x1 3 (fun _ => 0) 70
                      have h49 : w.heap.size ≤ x1.heap.size := HB.out.size
                      have l3 := K3.lt
                      have lr1 := irow_lt R1.out
                      have lr5 := irow_lt R5.out
                      have hb : Below x1.heap.size x1 (x1.alloc (.cells (mk 3 fun _ => 0) 70)) := (Below.refl _ _).alloc (Nat.le_refl _) _
                      replace K3 := K3.below hb K3.lt
                      replace R1 := Lib.hid (R1.out.below hb)
                      replace R5 := Lib.hid (R5.out.below hb)
                      replace C5 := C5.below hb
                      replace HB : Hid (Below w.heap.size w (x1.alloc (.cells (mk 3 fun _ => 0) 70))) := HB.out.trans (hb.mono HB.out.size)
                      clear hb hHeld
                      generalize x1.alloc (.cells (mk 3 fun _ => 0) 70) = x2 at *
                      generalize x1.heap.size = b49 at *
                      refine hK.out _ _ ⟨K3, C5⟩ (fun hHeld => ?_)
                      clear hK K
                      try simp only [Act.put, List.setIfInBounds_toArray, List.set_cons_zero, List.set_cons_succ]
                      refine wpAnyH_ready (rs := [6]) (by kernel_rfl) (by simp) ?_
                      refine AllReadyH.cons rfl (fun K hK => ?_) AllReadyH.nil
                      go_simp
                      refine (HRP.out _).mono ?_
                      rintro e x3 ⟨rfl, hb⟩
                      replace K3 := K3.below hb K3.lt
                      replace R1 := Lib.hid (R1.out.below hb)
                      replace R5 := Lib.hid (R5.out.below hb)
                      replace C5 := C5.below hb
                      replace HB : Hid (Below w.heap.size w x3) := HB.out.trans (hb.mono HB.out.size)
                      replace K49 := K49.below hb K49.lt
                      clear hb hHeld
                      go_wp2_with fail
                      refine hK.out _ _ ⟨K3, C5⟩ (fun hHeld => ?_)
                      clear hK K
                      try simp only [Act.put, List.setIfInBounds_toArray, List.set_cons_zero, List.set_cons_succ]
                      refine wpAnyH_take (i := 7) (oi := { dst := some 314, op := _, type := _, pos := _, after := _, guard := _ }) (v := .tuple #[.agg (mk 3 P), .bool (!hb9)]) rfl (by kernel_rfl) (by kernel_rfl) (by kernel_rfl) (fun _ _ _ h => h) (Or.inl ⟨by rfl, by intro w hSw; clear hSw; go_simp; (try with_reducible rfl)⟩) (by assumption) ?_
                      try simp only [Act.put, List.setIfInBounds_toArray, List.set_cons_zero, List.set_cons_succ]
                      refine wpAnyH_take (i := 8) (oi := { dst := some 322, op := _, type := _, pos := _, after := _, guard := _ }) (v := .agg (mk 3 P)) rfl (by kernel_rfl) (by kernel_rfl) (by kernel_rfl) (fun _ _ _ h => h) (Or.inl ⟨by rfl, by intro w hSw; clear hSw; go_simp; (try with_reducible rfl)⟩) (by assumption) ?_
                      try simp only [Act.put, List.setIfInBounds_toArray, List.set_cons_zero, List.set_cons_succ]
                      refine wpAnyH_take (i := 9) (oi := { dst := some 323, op := _, type := _, pos := _, after := _, guard := _ }) (v := .bool (!hb9)) rfl (by kernel_rfl) (by kernel_rfl) (by kernel_rfl) (fun _ _ _ h => h) (Or.inl ⟨by rfl, by intro w hSw; clear hSw; go_simp; (try with_reducible rfl)⟩) (by assumption) ?_
                      try simp only [Act.put, List.setIfInBounds_toArray, List.set_cons_zero, List.set_cons_succ]
                      refine wpAnyH_ready (rs := [11]) (by kernel_rfl) (by simp) ?_
                      refine AllReadyH.cons rfl (fun K hK => ?_) AllReadyH.nil
                      have st1 := run_store_blk (P := Try.prog) (g := P) K49
                      have ms1 : (mk 3 P).size = 3 := mk_size 3 _
                      go_simp
                      clear st1 ms1
                      have gr := grown_rowP K49 (mk 3 P)
                      replace K3 := K3.rowOther b49 (mk 3 P) (by omega)
                      replace C5 := C5.grownP gr (fun e => by have := Option.some.inj e; omega)
                      replace R1 := Lib.hid (irow_set R1.out gr (by omega))
                      replace R5 := Lib.hid (irow_set R5.out gr (by omega))
                      replace HB : Hid (Below w.heap.size w (x3.setRow b49 (mk 3 P))) := below_setRow HB.out h49 _
                      clear hHeld gr K49
                      generalize x3.setRow b49 (mk 3 P) = x9 at *
                      refine hK.out _ _ ⟨K3, C5⟩ (fun hHeld => ?_)
                      clear hK K
                      try simp only [Act.put, List.setIfInBounds_toArray, List.set_cons_zero, List.set_cons_succ]
                      refine wpAnyH_take (i := 12) (oi := { dst := some 50, op := _, type := _, pos := _, after := _, guard := _ }) (v := .bool (!hb9)) rfl (by kernel_rfl) (by kernel_rfl) (by kernel_rfl) (fun _ _ _ h => h) (Or.inl ⟨by rfl, by intro w hSw; clear hSw; go_simp; (try with_reducible rfl)⟩) (by assumption) ?_
                      try simp only [Act.put, List.setIfInBounds_toArray, List.set_cons_zero, List.set_cons_succ]
                      refine wpAnyH_done (by kernel_rfl) ?_ _
                      clear hHeld l3 lr1 lr5 h49
                      have c5 := C5.2 i (by omega)
                      clear C5
                      go_wp2_with fail
                      refine (rHas_any _ NS HS (HM i) _ R1.out (by omega)).mono ?_
                      rintro e w99 ⟨rfl, rfl⟩
                      rw [HH9.out]
                      cases hb9 with
                      | false =>
                        go_wp2_with fail
                        go_roundg gk2
                        case rel => exact ⟨i + 1, by omega, by go_num, K3, R1, R5, HB⟩
                        case measure => omega
                      | true =>
                        go_wp2_with fail
                        go_roundg gk2
                        case rel => exact ⟨i + 1, by omega, by go_num, K3, R1, R5, HB⟩
                        case measure => omega
                    | zero =>
                      have hi : ¬ ((i : Int) < (NM : Int)) := by omega
                      go_wp2_with fail
                      go_ret
                      exact ⟨rfl, HB.out⟩
  · have dl : decide ((65536 : Int) < (len0 : Int)) = true := by simp; omega
    go_enter Try.func9, Try.ntmps9
    go_wp2_with fail
    refine (rBig_any a0 len0 cap0 _).mono ?_
    rintro e w' ⟨rfl, rfl⟩
    rw [dl]
    go_wp2_with fail
    go_ret
    exact ⟨rfl, HB.out⟩

noncomputable def laidWorld (os : Os) : World := World.holding Try.prog os ⟨#[], #[], []⟩
theorem laid_met (os : Os) : laidMet Try.prog Rows.fnLastingRow.laid ((laidWorld os).forCall (fun _ _ => 0) ⟨#[], #[.slice none 0 0], []⟩).memory := laidMet_of_run' 8 (by kernel_rfl) (by kernel_rfl)
theorem reads (os : Os) {H : Type} (enc : TypeId × Value → H) : ∃ places, DataW.whole enc Try.prog ((laidWorld os).forCall (fun _ _ => 0) ⟨#[], #[.slice none 0 0], []⟩).memory Try.f9.params.toList Rows.fnLastingSpec.vars false #[.slice none 0 0].toList 8 = some ([.nil], [], places) :=
  ⟨[], by kernel_rfl⟩
set_option linter.unusedVariables false in
set_option maxRecDepth 100000 in
theorem lifted (os : Os) (started : os.Started) (H : Type) (enc : TypeId × Value → H) (F : Stop.Interp) :
    ReturnsInHanded {} Try.checked os 9 .any ((OpenSpec.ofChange Rows.fnLastingSpec).preRow enc Try.prog Try.f9 Rows.fnLastingRow.domain false Rows.fnLastingRow.laid) (((OpenSpec.ofChange Rows.fnLastingSpec).at F).post enc Try.prog Try.f9 false true false false) := by
  obtain ⟨places, hx⟩ := reads os enc
  refine returnsInHanded_of_row (C := Try.checked) (s := (OpenSpec.ofChange Rows.fnLastingSpec)) own started (by kernel_rfl) Try.func9
    (witness_row_at (enc := enc) (C := Try.checked) false (laidWorld os) #[.slice none 0 0] rfl (by kernel_rfl) (by kernel_rfl) (by kernel_rfl)
      (OpenSpec.preRow_of_cond 8 hx (by kernel_rfl) (fun k hk => by cases hk) (by kernel_rfl) (laid_met os))) ?_
  intro W base args ds gs before hval0 hW _ hcond hsz hL hsh _
  have hval : ∀ (j : Nat) t v, Try.f9.params[j]? = some t → args[j]? = some v → Value.okWide Try.prog W .any base t v := hval0
  have hW' := hW
  obtain ⟨p, q, hA0, hV, rfl, hfz, hnd⟩ := hW
  have hA : DataW.TrodAll enc Try.prog W 0 (fun _ => true) true Try.f9.params.toList args.toList ds p := hA0
  rw [Try.params9] at hA hval
  obtain ⟨v0, vs0, d0, ds0, p0, q0, hargs, rfl, rfl, h0, r0⟩ := trodAll_cons hA
  obtain ⟨rfl, rfl, rfl⟩ := trodAll_nil r0
  obtain rfl : args = #[v0] := by cases args; simp_all
  obtain ⟨rfl, rfl⟩ := trodVars_none hV
  obtain ⟨a0, len0, cap0, rfl⟩ := okWide_slice Try.underlying44 (hval 0 44 v0 rfl rfl)
  have k0 := h0
  have lt0 : ∀ x ∈ p0, x.block < W.heap.size := by obtain ⟨m, hm⟩ := k0; exact DataW.trod_lt m _ _ _ hm
  obtain ⟨z0, w0⟩ : ∃ zs, IsRow .u8 W a0 len0 cap0 zs := by
    obtain ⟨fuel, hf⟩ := h0
    rcases open_ints Try.underlying44 Try.underlying5 (by kernel_rfl) hf with ⟨hcs, _⟩ | ⟨x, l, c, zs, hcs, _, hl, hm, hz, _, hcell, hwz⟩
    · simp [Value.cells] at hcs; obtain ⟨rfl, rfl, rfl⟩ := hcs; exact ⟨[], .inl ⟨rfl, rfl, rfl, rfl⟩⟩
    · simp [Value.cells] at hcs; obtain ⟨rfl, rfl, rfl⟩ := hcs; exact ⟨zs, .inr ⟨_, rfl, hl, hm, by simpa using hz, hcell, hwz⟩⟩
  clear hA0 hval0
  have hwalk : Calls Try.prog 9 #[.slice a0 len0 cap0] W fun e w' => e = .returned (.bool true) ∧ Below W.heap.size W w' := walk W hsh a0 len0 cap0 z0 w0
  refine hwalk.mono fun e W' ⟨he, bel⟩ => ?_
  subst he
  exact ⟨_, rfl, _, _, _, [], _, [], hW', trodAll_mk1 (shut_bool Try.underlying4 _), (trodAll_cons_mk (Below.trod laidOut (by kernel_rfl) (of_decide_eq_true (by kernel_rfl)) k0 bel lt0) trodAll_mk0), rfl, bel.frame _, fun h => by cases h⟩
theorem closed : joinedFacts Try.pinned.checked.prog 9 Try.f9 ((OpenSpec.ofChange Rows.fnLastingSpec)).bare Rows.fnLastingRow = true := by
  unfold joinedFacts
  repeat' with_reducible refine and_mk ?_ ?_
  case refine_1.refine_1.refine_1.refine_1.refine_1.refine_1.refine_2 => exact enters
  case refine_1.refine_1.refine_1.refine_1.refine_1.refine_2 => exact (show (Rows.fnLastingRow.lifted == Try.prog.liftsFinal) = true by rw [final_no]; rfl)
  case refine_1.refine_1.refine_1.refine_1.refine_2 => exact (show (Try.prog.make == some Rows.fnLastingRow.make) = true by rw [make_cut]; rfl)
  case refine_1.refine_1.refine_1.refine_1.refine_1.refine_1.refine_1.refine_1.refine_1.refine_1.refine_1.refine_1.refine_1.refine_1.refine_1.refine_1.refine_1.refine_1.refine_1.refine_1.refine_1.refine_1.refine_1.refine_1.refine_1.refine_1.refine_1.refine_1.refine_1.refine_1.refine_2 => exact laidOut
  case refine_1.refine_1.refine_1.refine_1.refine_1.refine_1.refine_1.refine_1.refine_1.refine_1.refine_1.refine_1.refine_1.refine_1.refine_1.refine_1.refine_1.refine_1.refine_1.refine_1.refine_1.refine_1.refine_1.refine_1.refine_1.refine_1.refine_1.refine_1.refine_1.refine_2 => exact maps_rowed
  case refine_1.refine_1.refine_1.refine_1.refine_1.refine_1.refine_1.refine_2 => exact stops_heard
  all_goals (as_aux_lemma => kernel_rfl)
theorem proved : Rows.FnLastingSaid :=
  OpenClaim.holds_of_cond 9 Try.f9 rfl rfl rfl rfl rfl rfl rfl ⟨rfl, rfl, rfl, rfl, rfl⟩ rfl rfl rfl rfl rfl (by kernel_rfl) Try.func9 closed
    (of_decide_eq_true (by kernel_rfl)) (by unfold Func.isWrapper; first | (rw [if_pos (by decide +kernel)]; kernel_rfl) | (rw [if_neg (by decide +kernel)]; exact ⟨rfl, rfl⟩))
    (fun os started H enc _ F => by rw [OpenClaim.pre_eq_preRow]; exact lifted os started H enc F)
#print axioms proved
end Go.Proofs.Ytlboglcpbbnbcab.fnLasting
