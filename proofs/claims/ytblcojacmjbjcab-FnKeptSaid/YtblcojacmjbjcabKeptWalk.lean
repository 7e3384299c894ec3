/-
  The walk of FnKept.
-/
import Derived.Test.YtblcojacmjbjcabDrawKept
import Derived.Test.YtblcojacmjbjcabKeptFacts
import Derived.Test.YtblcojacmjbjcabVHelp
import Derived.Test.YtblcojacmjbjcabTellA
import Derived.Test.YtblcojacmjbjcabOver
import Derived.Test.YtblcojacmjbjcabClosed
import Derived.Deep.CutRange
namespace Go.Proofs.Ytblcojacmjbjcab.fnKept
open Go.ChangeShapes Go.WideShapes Go.ChangeAt Go.RowKit Plain
attribute [local go_sem] store_new
set_option linter.unusedSimpArgs false
set_option linter.unusedVariables false
theorem isRow_kept {k : IntKind} {w w' : World} {a : Option Addr} {len cap : Nat} {z : List Int} (h : IsRow k w a len cap z) (hb : Below w.heap.size w w') : IsRow k w' a len cap z := by
  rcases h with h | ⟨x, h0, h1, h2, h3, h4, h5⟩
  · exact .inl h
  · refine .inr ⟨x, h0, h1, h2, h3, fun i hi => ?_, h5⟩
    have := h4 i hi
    exact (hb.cell (World.block_lt_of_cell? w _ this)).trans this
theorem irow_kept {w : World} {b g c : Nat} {L : List Int} (ho : OwnsInts w b (.slice (some ⟨g, 0, none⟩) L.length c) L) : IRow w (.slice (some ⟨g, 0, none⟩) L.length c) L.length (fun i => L.getD i 0) := by
  unfold OwnsInts at ho
  rw [ints_mk] at ho
  exact IRow.of_own ho
theorem neqC (p q : Fc) (w : World) : (binOp .neq 42 (.agg (mk 2 (fcF p))) (.agg (mk 2 (fcF q)))).run Try.prog w = .ok (.bool (!decide (p = q))) w := by
  rw [run_neq_struct, eqC7 9998, sameF7_fc]; rfl
theorem neqC_self (p : Fc) (w : World) : (binOp .neq 42 (.agg (mk 2 (fcF p))) (.agg (mk 2 (fcF p)))).run Try.prog w = .ok (.bool false) w := by
  rw [neqC]; simp
theorem kept_ok {f : Nat → Int} {n : Int} (h : kcO f n = true) : Vd f ∧ (n = 0 ∨ n = 1 ∨ n = 2 ∨ n = 3) ∧ kcF f n = KpF n.toNat f := by
  have h2 : KcOk f n := of_decide_eq_true h
  exact ⟨h2.1, by have := h2.2; omega, if_pos h2⟩
theorem kept_at {f : Nat → Int} (hV : Vd f) (n : Nat) (hn : n ≤ 3) : kcF f (n : Int) = KpF n f ∧ kcO f (n : Int) = true := by
  have h2 : KcOk f (n : Int) := ⟨hV, by omega, by omega⟩
  exact ⟨by have e : kcF f (n : Int) = _ := if_pos h2
            rw [e]; rfl, decide_eq_true h2⟩
theorem keep_of {f : Nat → Int} (hV : Vd f) (n : Nat) (hn : n ≤ 3) (W : World) :
    Calls Try.prog 92 #[.agg (mk 16 f), .int .i64 (n : Int)] W fun e w' => e = .returned (.tuple #[.agg (mk 2 (fcF (KpF n f))), .bool true]) ∧ Below W.heap.size W w' := by
  have := implKeepC_any f (n : Int) W
  rw [(kept_at hV n hn).1, (kept_at hV n hn).2] at this
  exact this
theorem over_of {f : Nat → Int} (hV : Vd f) (W : World) :
    Calls Try.prog 64 #[.agg (mk 16 f)] W fun e w' => e = .returned (.tuple #[.bool (overR f), .bool true]) ∧ Below W.heap.size W w' := by
  have := implOver_any f W
  rw [vdO_yes hV] at this
  exact this
theorem less_no (p q : Fc) (h1 : p.1 * q.2 ≤ 4611686018427387904) (h2 : q.1 * p.2 ≤ 4611686018427387904) (h : ltF p q = false) (W : World) :
    Calls Try.prog 78 #[.agg (mk 2 (fcF p)), .agg (mk 2 (fcF q))] W fun e w' => e = .returned (.bool false) ∧ Below W.heap.size W w' := by
  have := vLess_any p q W h1 h2
  rw [h] at this
  exact this
theorem well_facts {g : Nat → Int} {k X : Int} (h : fwK g k = true) (hX : X = fwD g k) :
    ∃ d : Nat, X = (d : Int) ∧ d < 4 ∧ isMv g d = true ∧ Vd g ∧ (k = 2 → KpF 2 g = mnF (KpF 1) (slideB g d)) := by
  unfold fwD at hX
  unfold fwK at h
  unfold fwB at h hX
  by_cases hk : FwOk g k
  · rw [if_pos hk] at h hX
    obtain ⟨hV, h1, h3⟩ := hk
    obtain ⟨_, hd4, hm, hv, _⟩ := (bm_first 4 fun d _ hm => (kb_ok (n := k.toNat - 1) (by omega) hV hm).1).2 h
    refine ⟨_, hX, hd4, hm, hV, fun hk2 => ?_⟩
    subst hk2
    exact (kept_well hV h).2.2
  · rw [if_neg hk] at h; cases h
theorem moves_has {g : Nat → Int} {d : Nat} (hV : Vd g) (hd : d < 4) (hm : isMv g d = true) : ∃ (NM : Nat) (HM : Nat → Int), NM ≤ 4 ∧
    (∀ W, Calls Try.prog 65 #[.agg (mk 16 g)] W fun e w' => ∃ b c, e = .returned (.tuple #[.slice (some ⟨b, 0, none⟩) NM c, .bool true]) ∧ IRow w' (.slice (some ⟨b, 0, none⟩) NM c) NM HM ∧ Below W.heap.size W w') ∧
    hasI HM NM (d : Int) = true := by
  refine ⟨(movL g 4).length, fun i => (movL g 4).getD i 0, movL_le g 4, fun W => ?_, by rw [has_mov g hd]; exact hm⟩
  have := implMoves_any g W
  rw [movR_yes hV, vdO_yes hV] at this
  exact this.mono fun e w' ⟨b, c, r1, r2, r3⟩ => ⟨b, c, r1, irow_kept r2, r3⟩
theorem well_two {g : Nat → Int} {d : Nat} (hd : d < 4) (hm : isMv g d = true) (hV : Vd g) (hk : KpF 2 g = mnF (KpF 1) (slideB g d)) : ∃ A B : Fc,
    (∀ W, Calls Try.prog 66 #[.agg (mk 16 g), .int .i64 (d : Int)] W fun e w' => e = .returned (.tuple #[.agg (mk 2 (fcF A)), .bool true]) ∧ Below W.heap.size W w') ∧
    (∀ W, Calls Try.prog 92 #[.agg (mk 16 g), .int .i64 2] W fun e w' => e = .returned (.tuple #[.agg (mk 2 (fcF B)), .bool true]) ∧ Below W.heap.size W w') ∧
    A.1 ≤ A.2 ∧ A.2 ≤ 160 ∧ B.1 ≤ B.2 ∧ B.2 ≤ 160 ∧ (A.2 - A.1) * B.2 = B.1 * A.2 := by
  have hM : MvOk g (d : Int) := ⟨⟨hV, by omega, by omega⟩, hm⟩
  have hs := kept_behind (slideB_vd hV d) (mv_room hV hm)
  rw [← hk] at hs
  refine ⟨mnF (numT uOver) (slideB g d), KpF 2 g, fun W => ?_, fun W => keep_of hV 2 (by omega) W, hs.1, hs.2.1, hs.2.2.1, hs.2.2.2.1, hs.2.2.2.2⟩
  have := implChOver_any g (d : Int) W
  rw [mm_yes hM, decide_eq_true hM] at this
  exact this
theorem one_less {p : Fc} (h : p.1 ≤ p.2 ∧ p.2 ≤ 1153152000) (W : World) :
    Calls Try.prog 78 #[.agg #[.int .i64 1, .int .i64 1], .agg (mk 2 (fcF p))] W fun e w' => e = .returned (.bool false) ∧ Below W.heap.size W w' :=
  less_no (1, 1) p (by show 1 * p.2 ≤ _; omega) (by show p.1 * 1 ≤ _; omega) (ltF_one h.1) W
theorem eqL1 (p : Fc) (w : World) : (Op.equalIn 10000 42 (.agg (mk 2 (fcF p))) (.agg (((mk 2 fun _ => 0).setIfInBounds 0 (.int .i64 1)).setIfInBounds 1 (.int .i64 1)))).run Try.prog w = .ok (decide (p = (1, 1))) w := by
  have := eqC7 9998 (fcF p) (fcF (1, 1)) w
  rw [sameF7_fc] at this
  exact this
theorem eqL0 (p : Fc) (w : World) : (Op.equalIn 10000 42 (.agg (mk 2 (fcF p))) (.agg (((mk 2 fun _ => 0).setIfInBounds 0 (.int .i64 0)).setIfInBounds 1 (.int .i64 1)))).run Try.prog w = .ok (decide (p = (0, 1))) w := by
  have := eqC7 9998 (fcF p) (fcF (0, 1)) w
  rw [sameF7_fc] at this
  exact this
theorem kept_less {f : Nat → Int} (hV : Vd f) (n : Nat) (hn : n ≤ 2) (W : World) :
    Calls Try.prog 78 #[.agg (mk 2 (fcF (KpF n f))), .agg (mk 2 (fcF (KpF (n + 1) f)))] W fun e w' => e = .returned (.bool false) ∧ Below W.heap.size W w' := by
  have b1 := kept_bd (n := n + 1) (by omega) hV
  have b0 := kept_bd (n := n) (by omega) hV
  refine less_no (KpF n f) (KpF (n + 1) f) ?_ ?_ (kept_falls n (by omega) hV) W
  · exact Nat.le_trans (Nat.mul_le_mul (Nat.le_trans b0.1 b0.2) b1.2) (by decide)
  · exact Nat.le_trans (Nat.mul_le_mul (Nat.le_trans b1.1 b1.2) b0.2) (by decide)
theorem kept_case0 {f : Nat → Int} {C : Fc} (hV : Vd f) (hC : C = KpF (0 : Int).toNat f) :
    (∀ W, Calls Try.prog 78 #[.agg #[.int .i64 1, .int .i64 1], .agg (mk 2 (fcF C))] W fun e w' => e = .returned (.bool false) ∧ Below W.heap.size W w') ∧
    (∀ W, (Op.equalIn 10000 42 (.agg (mk 2 (fcF C))) (.agg (((mk 2 fun _ => 0).setIfInBounds 0 (.int .i64 1)).setIfInBounds 1 (.int .i64 1)))).run Try.prog W = .ok true W) := by
  subst hC
  exact ⟨fun W => one_less (kept_bd (n := 0) (by omega) hV) W, fun W => eqL1 (1, 1) W⟩
theorem kept_case1 {f : Nat → Int} {C : Fc} {Z : Bool} (hV : Vd f) (hC : C = KpF (1 : Int).toNat f) (hZ : overR f = Z) :
    (∀ W, Calls Try.prog 78 #[.agg #[.int .i64 1, .int .i64 1], .agg (mk 2 (fcF C))] W fun e w' => e = .returned (.bool false) ∧ Below W.heap.size W w') ∧
    (∀ W, (Op.equalIn 10000 42 (.agg (mk 2 (fcF C))) (.agg (((mk 2 fun _ => 0).setIfInBounds 0 (.int .i64 1)).setIfInBounds 1 (.int .i64 1)))).run Try.prog W = .ok (!Z) W) ∧
    (Z = true → (∀ W, (Op.equalIn 10000 42 (.agg (mk 2 (fcF C))) (.agg (((mk 2 fun _ => 0).setIfInBounds 0 (.int .i64 0)).setIfInBounds 1 (.int .i64 1)))).run Try.prog W = .ok true W)) ∧
    ∃ C0 : Fc, (∀ W, Calls Try.prog 92 #[.agg (mk 16 f), .int .i64 0] W fun e w' => e = .returned (.tuple #[.agg (mk 2 (fcF C0)), .bool true]) ∧ Below W.heap.size W w') ∧
    (∀ W, Calls Try.prog 78 #[.agg (mk 2 (fcF C0)), .agg (mk 2 (fcF C))] W fun e w' => e = .returned (.bool false) ∧ Below W.heap.size W w') := by
  subst hC hZ
  refine ⟨fun W => one_less (kept_bd (n := 1) (by omega) hV) W, fun W => ?_, fun h W => ?_, KpF 0 f, fun W => keep_of hV 0 (by omega) W, fun W => kept_less hV 0 (by omega) W⟩
  · rw [← kept_one hV]; exact eqL1 (KpF 1 f) W
  · have h0 := eqL0 (KpF 1 f) W
    rw [decide_eq_true (kept_over (n := 0) h)] at h0
    exact h0
theorem kept_case2 {f : Nat → Int} {C : Fc} {Z : Bool} {n : Int} (hV : Vd f) (hC : C = KpF n.toNat f) (hZ : overR f = Z) (hn : n = 2 ∨ n = 3) :
    (∀ W, Calls Try.prog 78 #[.agg #[.int .i64 1, .int .i64 1], .agg (mk 2 (fcF C))] W fun e w' => e = .returned (.bool false) ∧ Below W.heap.size W w') ∧
    (Z = true → (∀ W, (Op.equalIn 10000 42 (.agg (mk 2 (fcF C))) (.agg (((mk 2 fun _ => 0).setIfInBounds 0 (.int .i64 0)).setIfInBounds 1 (.int .i64 1)))).run Try.prog W = .ok true W)) ∧
    ∃ C0 : Fc, (∀ W, Calls Try.prog 92 #[.agg (mk 16 f), .int .i64 (n - 1)] W fun e w' => e = .returned (.tuple #[.agg (mk 2 (fcF C0)), .bool true]) ∧ Below W.heap.size W w') ∧
    (∀ W, Calls Try.prog 78 #[.agg (mk 2 (fcF C0)), .agg (mk 2 (fcF C))] W fun e w' => e = .returned (.bool false) ∧ Below W.heap.size W w') := by
  obtain ⟨m, rfl⟩ : ∃ m : Nat, n = (m : Int) + 1 := ⟨n.toNat - 1, by omega⟩
  rw [show ((m : Int) + 1).toNat = m + 1 by omega] at hC
  rw [show (m : Int) + 1 - 1 = (m : Int) by omega]
  subst hC hZ
  refine ⟨fun W => one_less (kept_bd (n := m + 1) (by omega) hV) W, fun h W => ?_, KpF m f, fun W => keep_of hV m (by omega) W, fun W => kept_less hV m (by omega) W⟩
  have h0 := eqL0 (KpF (m + 1) f) W
  rw [decide_eq_true (kept_over (n := m) h)] at h0
  exact h0
set_option maxHeartbeats 16000000 in
set_option maxRecDepth 100000 in
theorem walk (w : World) (_ : w.ShapedOpen Try.prog) (a0 : Option Addr) (len0 cap0 : Nat) (z0 : List Int) (hr : IsRow .u8 w a0 len0 cap0 z0) :
    Calls Try.prog 8 #[.slice a0 len0 cap0] w fun e w' => e = .returned (.bool true) ∧ Below w.heap.size w w' := by
  have z16 := zero16
  have z2 := zero2
  have iNC := neqC_self
  have HR := Lib.hid hr
  have HB : Hid (Below w.heap.size w w) := Below.refl w.heap.size w
  clear hr
  by_cases hl : len0 ≤ 65536
  · have dl : decide ((65536 : Int) < (len0 : Int)) = false := by simp; omega
    go_enter Try.func8, Try.ntmps8
    go_wp2_with fail
    refine (vBig_any a0 len0 cap0 _).mono ?_
    rintro e w' ⟨rfl, rfl⟩
    rw [dl]
    clear dl
    go_wp2_with fail
    refine (drawKeep_any a0 len0 cap0 _ hl (HR.out.code)).mono ?_
    rintro e w1 ⟨f, n, rfl, hb⟩
    replace HB : Hid (Below w.heap.size w w1) := HB.out.trans (hb.mono HB.out.size)
    clear hb
    have K3 := Blk.new (w1) 16 (f) 47
    replace HB : Hid (Below w.heap.size w ((w1).alloc (.cells (mk 16 (f)) 47))) := HB.out.alloc HB.out.size _
    obtain ⟨C, hC⟩ : ∃ x, x = kcF f n := ⟨_, rfl⟩
    obtain ⟨O, hO⟩ : ∃ x, x = kcO f n := ⟨_, rfl⟩
    have iK := Lib.hid (implKeepC_any f n)
    have sK := Lib.hid (specKeepC_any f n)
    rw [← hC, ← hO] at iK sK
    have HK : Hid (C = kcF f n ∧ O = kcO f n) := ⟨hC, hO⟩
    clear hC hO
    go_wp2_with (first | ((with_reducible show wpList _ _ _ (Oper.mk _ (Op.load 47 _) _ _ _ _ :: _) _ _); refine loadB (K3) rfl rfl rfl ?_) | ((with_reducible show wpList _ _ _ (Oper.mk _ (Op.load 47 _) _ _ _ (some _) :: _) _ _); refine loadgB (K3) rfl rfl rfl ?_))
    generalize (w1).alloc (.cells (mk 16 (f)) 47) = w2 at *
    generalize w1.heap.size = b3 at *
    refine (iK.out _).mono ?_
    rintro e w3 ⟨rfl, hb⟩
    replace K3 := K3.below hb K3.lt
    replace HB : Hid (Below w.heap.size w w3) := HB.out.trans (hb.mono HB.out.size)
    clear hb
    have K5 := Blk.new (w3) 2 (fcF C) 42
    replace K3 := K3.alloc (.cells (mk 2 (fcF C)) 42)
    replace HB : Hid (Below w.heap.size w ((w3).alloc (.cells (mk 2 (fcF C)) 42))) := HB.out.alloc HB.out.size _
    go_wp2_with (first | ((with_reducible show wpList _ _ _ (Oper.mk _ (Op.load 47 _) _ _ _ _ :: _) _ _); refine loadB (K3) rfl rfl rfl ?_) | ((with_reducible show wpList _ _ _ (Oper.mk _ (Op.load 47 _) _ _ _ (some _) :: _) _ _); refine loadgB (K3) rfl rfl rfl ?_))
    generalize (w3).alloc (.cells (mk 2 (fcF C)) 42) = w4 at *
    generalize w3.heap.size = b5 at *
    refine (sK.out _).mono ?_
    rintro e w5 ⟨rfl, hb⟩
    replace K3 := K3.below hb K3.lt
    replace K5 := K5.below hb K5.lt
    replace HB : Hid (Below w.heap.size w w5) := HB.out.trans (hb.mono HB.out.size)
    clear hb
    have K7 := Blk.new (w5) 2 (fcF C) 42
    replace K3 := K3.alloc (.cells (mk 2 (fcF C)) 42)
    replace K5 := K5.alloc (.cells (mk 2 (fcF C)) 42)
    replace HB : Hid (Below w.heap.size w ((w5).alloc (.cells (mk 2 (fcF C)) 42))) := HB.out.alloc HB.out.size _
    clear iK sK
    go_wp2_with fail
    generalize (w5).alloc (.cells (mk 2 (fcF C)) 42) = w6 at *
    generalize w5.heap.size = b7 at *
    refine (vCut1_any a0 len0 cap0 z0 _ hl (isRow_kept HR.out HB.out)).mono ?_
    rintro e w7 ⟨g1, m1, c1, rfl, hm1, hcr, hb⟩
    replace K3 := K3.below hb K3.lt
    replace K5 := K5.below hb K5.lt
    replace K7 := K7.below hb K7.lt
    replace HB : Hid (Below w.heap.size w w7) := HB.out.trans (hb.mono HB.out.size)
    clear hb
    have HCR := Lib.hid hcr
    clear hcr
    go_wp2_with fail
    refine (drawWell_any (some ⟨g1, 0, none⟩) m1 c1 _ hm1 HCR.out).mono ?_
    rintro e w8 ⟨g, k, rfl, hb⟩
    replace K3 := K3.below hb K3.lt
    replace K5 := K5.below hb K5.lt
    replace K7 := K7.below hb K7.lt
    replace HB : Hid (Below w.heap.size w w8) := HB.out.trans (hb.mono HB.out.size)
    clear hb
    clear HCR HR hm1
    have K9 := Blk.new (w8) 16 (g) 47
    replace K3 := K3.alloc (.cells (mk 16 (g)) 47)
    replace K5 := K5.alloc (.cells (mk 16 (g)) 47)
    replace K7 := K7.alloc (.cells (mk 16 (g)) 47)
    replace HB : Hid (Below w.heap.size w ((w8).alloc (.cells (mk 16 (g)) 47))) := HB.out.alloc HB.out.size _
    obtain ⟨X, hX⟩ : ∃ x, x = fwD g k := ⟨_, rfl⟩
    obtain ⟨P, hP⟩ : ∃ x, x = fwK g k := ⟨_, rfl⟩
    have iW := Lib.hid (implFirstW_any g k)
    have sW := Lib.hid (specFirstW_any g k)
    rw [← hX, ← hP] at iW sW
    have HW : Hid (X = fwD g k ∧ P = fwK g k) := ⟨hX, hP⟩
    clear hX hP
    go_wp2_with (first | ((with_reducible show wpList _ _ _ (Oper.mk _ (Op.load 47 _) _ _ _ _ :: _) _ _); refine loadB (K9) rfl rfl rfl ?_) | ((with_reducible show wpList _ _ _ (Oper.mk _ (Op.load 47 _) _ _ _ (some _) :: _) _ _); refine loadgB (K9) rfl rfl rfl ?_))
    generalize (w8).alloc (.cells (mk 16 (g)) 47) = w9 at *
    generalize w8.heap.size = b9 at *
    refine (iW.out _).mono ?_
    rintro e w10 ⟨rfl, hb⟩
    replace K3 := K3.below hb K3.lt
    replace K5 := K5.below hb K5.lt
    replace K7 := K7.below hb K7.lt
    replace K9 := K9.below hb K9.lt
    replace HB : Hid (Below w.heap.size w w10) := HB.out.trans (hb.mono HB.out.size)
    clear hb
    go_wp2_with (first | ((with_reducible show wpList _ _ _ (Oper.mk _ (Op.load 47 _) _ _ _ _ :: _) _ _); refine loadB (K9) rfl rfl rfl ?_) | ((with_reducible show wpList _ _ _ (Oper.mk _ (Op.load 47 _) _ _ _ (some _) :: _) _ _); refine loadgB (K9) rfl rfl rfl ?_))
    refine (sW.out _).mono ?_
    rintro e w11 ⟨rfl, hb⟩
    replace K3 := K3.below hb K3.lt
    replace K5 := K5.below hb K5.lt
    replace K7 := K7.below hb K7.lt
    replace K9 := K9.below hb K9.lt
    replace HB : Hid (Below w.heap.size w w11) := HB.out.trans (hb.mono HB.out.size)
    clear hb
    clear iW sW
    have oO : (O != O) = false := by cases O <;> rfl
    have oP : (P != P) = false := by cases P <;> rfl
    have oX : (X != X) = false := by simp
    cases P with
    | false =>
      clear HW
      clear K9
      cases O with
      | false =>
        clear HK K3
        go_wp2_with (first | ((with_reducible show wpList _ _ _ (Oper.mk _ (Op.load 42 _) _ _ _ _ :: _) _ _); refine loadC (K5) rfl rfl rfl ?_) | ((with_reducible show wpList _ _ _ (Oper.mk _ (Op.load 42 _) _ _ _ (some _) :: _) _ _); refine loadgC (K5) rfl rfl rfl ?_) | ((with_reducible show wpList _ _ _ (Oper.mk _ (Op.load 42 _) _ _ _ _ :: _) _ _); refine loadC (K7) rfl rfl rfl ?_) | ((with_reducible show wpList _ _ _ (Oper.mk _ (Op.load 42 _) _ _ _ (some _) :: _) _ _); refine loadgC (K7) rfl rfl rfl ?_))
        go_ret
        exact ⟨rfl, HB.out⟩
      | true =>
        obtain ⟨hVf, hn4, hCn⟩ := kept_ok HK.out.2.symm
        rw [hCn] at HK
        have HC := Lib.hid HK.out.1
        have HV := Lib.hid hVf
        have iO := Lib.hid (over_of hVf)
        generalize hZ : overR f = Z at iO
        have HZ := Lib.hid hZ
        clear HK hCn hVf hZ oO
        go_wp2_with (first | ((with_reducible show wpList _ _ _ (Oper.mk _ (Op.load 47 _) _ _ _ _ :: _) _ _); refine loadB (K3) rfl rfl rfl ?_) | ((with_reducible show wpList _ _ _ (Oper.mk _ (Op.load 47 _) _ _ _ (some _) :: _) _ _); refine loadgB (K3) rfl rfl rfl ?_) | ((with_reducible show wpList _ _ _ (Oper.mk _ (Op.load 42 _) _ _ _ _ :: _) _ _); refine loadC (K5) rfl rfl rfl ?_) | ((with_reducible show wpList _ _ _ (Oper.mk _ (Op.load 42 _) _ _ _ (some _) :: _) _ _); refine loadgC (K5) rfl rfl rfl ?_) | ((with_reducible show wpList _ _ _ (Oper.mk _ (Op.load 42 _) _ _ _ _ :: _) _ _); refine loadC (K7) rfl rfl rfl ?_) | ((with_reducible show wpList _ _ _ (Oper.mk _ (Op.load 42 _) _ _ _ (some _) :: _) _ _); refine loadgC (K7) rfl rfl rfl ?_))
        refine (iO.out _).mono ?_
        rintro e w12 ⟨rfl, hb⟩
        replace K3 := K3.below hb K3.lt
        replace K5 := K5.below hb K5.lt
        replace K7 := K7.below hb K7.lt
        replace HB : Hid (Below w.heap.size w w12) := HB.out.trans (hb.mono HB.out.size)
        clear hb
        clear iO
        rcases hn4 with rfl | rfl | hn4
        · obtain ⟨iL, iN⟩ := kept_case0 HV.out HC.out
          replace iL := Lib.hid iL
          clear HV HC HZ
          go_wp2_with (first | ((with_reducible show wpList _ _ _ (Oper.mk _ (Op.load 42 _) _ _ _ _ :: _) _ _); refine loadC (K5) rfl rfl rfl ?_) | ((with_reducible show wpList _ _ _ (Oper.mk _ (Op.load 42 _) _ _ _ (some _) :: _) _ _); refine loadgC (K5) rfl rfl rfl ?_))
          refine (iL.out _).mono ?_
          rintro e w13 ⟨rfl, hb⟩
          replace K3 := K3.below hb K3.lt
          replace K5 := K5.below hb K5.lt
          replace K7 := K7.below hb K7.lt
          replace HB : Hid (Below w.heap.size w w13) := HB.out.trans (hb.mono HB.out.size)
          clear hb
          clear iL
          go_wp2_with (first | ((with_reducible show wpList _ _ _ (Oper.mk _ (Op.load 42 _) _ _ _ _ :: _) _ _); refine loadC (K5) rfl rfl rfl ?_) | ((with_reducible show wpList _ _ _ (Oper.mk _ (Op.load 42 _) _ _ _ (some _) :: _) _ _); refine loadgC (K5) rfl rfl rfl ?_) | ((with_reducible show wpList _ _ _ (Oper.mk _ (Op.load 47 _) _ _ _ _ :: _) _ _); refine loadB (K3) rfl rfl rfl ?_) | ((with_reducible show wpList _ _ _ (Oper.mk _ (Op.load 47 _) _ _ _ (some _) :: _) _ _); refine loadgB (K3) rfl rfl rfl ?_))
          go_ret
          exact ⟨rfl, HB.out⟩
        · obtain ⟨iL, iE, iZ, C0, iC, iF⟩ := kept_case1 HV.out HC.out HZ.out
          have oZ : ((!Z) == Z) = false := by cases Z <;> rfl
          replace iZ := Lib.hid iZ
          replace iL := Lib.hid iL
          replace iC := Lib.hid iC
          replace iF := Lib.hid iF
          clear HV HC HZ
          go_wp2_with (first | ((with_reducible show wpList _ _ _ (Oper.mk _ (Op.load 42 _) _ _ _ _ :: _) _ _); refine loadC (K5) rfl rfl rfl ?_) | ((with_reducible show wpList _ _ _ (Oper.mk _ (Op.load 42 _) _ _ _ (some _) :: _) _ _); refine loadgC (K5) rfl rfl rfl ?_))
          refine (iL.out _).mono ?_
          rintro e w13 ⟨rfl, hb⟩
          replace K3 := K3.below hb K3.lt
          replace K5 := K5.below hb K5.lt
          replace K7 := K7.below hb K7.lt
          replace HB : Hid (Below w.heap.size w w13) := HB.out.trans (hb.mono HB.out.size)
          clear hb
          clear iL
          go_wp2_with (first | ((with_reducible show wpList _ _ _ (Oper.mk _ (Op.load 42 _) _ _ _ _ :: _) _ _); refine loadC (K5) rfl rfl rfl ?_) | ((with_reducible show wpList _ _ _ (Oper.mk _ (Op.load 42 _) _ _ _ (some _) :: _) _ _); refine loadgC (K5) rfl rfl rfl ?_) | ((with_reducible show wpList _ _ _ (Oper.mk _ (Op.load 47 _) _ _ _ _ :: _) _ _); refine loadB (K3) rfl rfl rfl ?_) | ((with_reducible show wpList _ _ _ (Oper.mk _ (Op.load 47 _) _ _ _ (some _) :: _) _ _); refine loadgB (K3) rfl rfl rfl ?_))
          refine (iC.out _).mono ?_
          rintro e w14 ⟨rfl, hb⟩
          replace K3 := K3.below hb K3.lt
          replace K5 := K5.below hb K5.lt
          replace K7 := K7.below hb K7.lt
          replace HB : Hid (Below w.heap.size w w14) := HB.out.trans (hb.mono HB.out.size)
          clear hb
          clear iC
          clear K3
          have K23 := Blk.new (w14) 2 (fcF C0) 42
          replace K5 := K5.alloc (.cells (mk 2 (fcF C0)) 42)
          replace K7 := K7.alloc (.cells (mk 2 (fcF C0)) 42)
          replace HB : Hid (Below w.heap.size w ((w14).alloc (.cells (mk 2 (fcF C0)) 42))) := HB.out.alloc HB.out.size _
          go_wp2_with (first | ((with_reducible show wpList _ _ _ (Oper.mk _ (Op.load 42 _) _ _ _ _ :: _) _ _); refine loadC (K23) rfl rfl rfl ?_) | ((with_reducible show wpList _ _ _ (Oper.mk _ (Op.load 42 _) _ _ _ (some _) :: _) _ _); refine loadgC (K23) rfl rfl rfl ?_) | ((with_reducible show wpList _ _ _ (Oper.mk _ (Op.load 42 _) _ _ _ _ :: _) _ _); refine loadC (K5) rfl rfl rfl ?_) | ((with_reducible show wpList _ _ _ (Oper.mk _ (Op.load 42 _) _ _ _ (some _) :: _) _ _); refine loadgC (K5) rfl rfl rfl ?_))
          generalize (w14).alloc (.cells (mk 2 (fcF C0)) 42) = w15 at *
          clear K23
          refine (iF.out _).mono ?_
          rintro e w16 ⟨rfl, hb⟩
          replace K5 := K5.below hb K5.lt
          replace K7 := K7.below hb K7.lt
          replace HB : Hid (Below w.heap.size w w16) := HB.out.trans (hb.mono HB.out.size)
          clear hb
          clear iF
          cases Z with
          | true =>
            have iZ := iZ.out rfl
            go_wp2_with (first | ((with_reducible show wpList _ _ _ (Oper.mk _ (Op.load 42 _) _ _ _ _ :: _) _ _); refine loadC (K5) rfl rfl rfl ?_) | ((with_reducible show wpList _ _ _ (Oper.mk _ (Op.load 42 _) _ _ _ (some _) :: _) _ _); refine loadgC (K5) rfl rfl rfl ?_))
            go_ret
            exact ⟨rfl, HB.out⟩
          | false =>
            clear iZ
            go_wp2_with (first | ((with_reducible show wpList _ _ _ (Oper.mk _ (Op.load 42 _) _ _ _ _ :: _) _ _); refine loadC (K5) rfl rfl rfl ?_) | ((with_reducible show wpList _ _ _ (Oper.mk _ (Op.load 42 _) _ _ _ (some _) :: _) _ _); refine loadgC (K5) rfl rfl rfl ?_))
            go_ret
            exact ⟨rfl, HB.out⟩
        · obtain ⟨iL, iZ, C0, iC, iF⟩ := kept_case2 HV.out HC.out HZ.out hn4
          have n0 : (n == 0) = false := by simp; omega
          have n1 : (n == 1) = false := by simp; omega
          have n2 : n > 0 := by omega
          have n3 : n ≤ 3 := by omega
          clear hn4
          replace iZ := Lib.hid iZ
          replace iL := Lib.hid iL
          replace iC := Lib.hid iC
          replace iF := Lib.hid iF
          clear HV HC HZ
          go_wp2_with (first | ((with_reducible show wpList _ _ _ (Oper.mk _ (Op.load 42 _) _ _ _ _ :: _) _ _); refine loadC (K5) rfl rfl rfl ?_) | ((with_reducible show wpList _ _ _ (Oper.mk _ (Op.load 42 _) _ _ _ (some _) :: _) _ _); refine loadgC (K5) rfl rfl rfl ?_))
          refine (iL.out _).mono ?_
          rintro e w13 ⟨rfl, hb⟩
          replace K3 := K3.below hb K3.lt
          replace K5 := K5.below hb K5.lt
          replace K7 := K7.below hb K7.lt
          replace HB : Hid (Below w.heap.size w w13) := HB.out.trans (hb.mono HB.out.size)
          clear hb
          clear iL
          go_wp2_with (first | ((with_reducible show wpList _ _ _ (Oper.mk _ (Op.load 42 _) _ _ _ _ :: _) _ _); refine loadC (K5) rfl rfl rfl ?_) | ((with_reducible show wpList _ _ _ (Oper.mk _ (Op.load 42 _) _ _ _ (some _) :: _) _ _); refine loadgC (K5) rfl rfl rfl ?_) | ((with_reducible show wpList _ _ _ (Oper.mk _ (Op.load 47 _) _ _ _ _ :: _) _ _); refine loadB (K3) rfl rfl rfl ?_) | ((with_reducible show wpList _ _ _ (Oper.mk _ (Op.load 47 _) _ _ _ (some _) :: _) _ _); refine loadgB (K3) rfl rfl rfl ?_))
          refine (iC.out _).mono ?_
          rintro e w14 ⟨rfl, hb⟩
          replace K3 := K3.below hb K3.lt
          replace K5 := K5.below hb K5.lt
          replace K7 := K7.below hb K7.lt
          replace HB : Hid (Below w.heap.size w w14) := HB.out.trans (hb.mono HB.out.size)
          clear hb
          clear iC
          clear K3
          have K23 := Blk.new (w14) 2 (fcF C0) 42
          replace K5 := K5.alloc (.cells (mk 2 (fcF C0)) 42)
          replace K7 := K7.alloc (.cells (mk 2 (fcF C0)) 42)
          replace HB : Hid (Below w.heap.size w ((w14).alloc (.cells (mk 2 (fcF C0)) 42))) := HB.out.alloc HB.out.size _
          go_wp2_with (first | ((with_reducible show wpList _ _ _ (Oper.mk _ (Op.load 42 _) _ _ _ _ :: _) _ _); refine loadC (K23) rfl rfl rfl ?_) | ((with_reducible show wpList _ _ _ (Oper.mk _ (Op.load 42 _) _ _ _ (some _) :: _) _ _); refine loadgC (K23) rfl rfl rfl ?_) | ((with_reducible show wpList _ _ _ (Oper.mk _ (Op.load 42 _) _ _ _ _ :: _) _ _); refine loadC (K5) rfl rfl rfl ?_) | ((with_reducible show wpList _ _ _ (Oper.mk _ (Op.load 42 _) _ _ _ (some _) :: _) _ _); refine loadgC (K5) rfl rfl rfl ?_))
          generalize (w14).alloc (.cells (mk 2 (fcF C0)) 42) = w15 at *
          clear K23
          refine (iF.out _).mono ?_
          rintro e w16 ⟨rfl, hb⟩
          replace K5 := K5.below hb K5.lt
          replace K7 := K7.below hb K7.lt
          replace HB : Hid (Below w.heap.size w w16) := HB.out.trans (hb.mono HB.out.size)
          clear hb
          clear iF
          cases Z with
          | true =>
            have iZ := iZ.out rfl
            go_wp2_with (first | ((with_reducible show wpList _ _ _ (Oper.mk _ (Op.load 42 _) _ _ _ _ :: _) _ _); refine loadC (K5) rfl rfl rfl ?_) | ((with_reducible show wpList _ _ _ (Oper.mk _ (Op.load 42 _) _ _ _ (some _) :: _) _ _); refine loadgC (K5) rfl rfl rfl ?_))
            go_ret
            exact ⟨rfl, HB.out⟩
          | false =>
            clear iZ
            go_wp2_with (first | ((with_reducible show wpList _ _ _ (Oper.mk _ (Op.load 42 _) _ _ _ _ :: _) _ _); refine loadC (K5) rfl rfl rfl ?_) | ((with_reducible show wpList _ _ _ (Oper.mk _ (Op.load 42 _) _ _ _ (some _) :: _) _ _); refine loadgC (K5) rfl rfl rfl ?_))
            go_ret
            exact ⟨rfl, HB.out⟩
    | true =>
      obtain ⟨d, rfl, hd4, hmv, hVg, hk2⟩ := well_facts HW.out.2.symm HW.out.1
      clear HW
      obtain ⟨NM, HM, hNM, iM, hhas⟩ := moves_has hVg hd4 hmv
      replace iM := Lib.hid iM
      replace hhas := Lib.hid hhas
      have HX := Lib.hid (And.intro hd4 (And.intro hmv (And.intro hVg hk2)))
      clear hd4 hmv hVg hk2
      go_wp2_with (first | ((with_reducible show wpList _ _ _ (Oper.mk _ (Op.load 42 _) _ _ _ _ :: _) _ _); refine loadC (K5) rfl rfl rfl ?_) | ((with_reducible show wpList _ _ _ (Oper.mk _ (Op.load 42 _) _ _ _ (some _) :: _) _ _); refine loadgC (K5) rfl rfl rfl ?_) | ((with_reducible show wpList _ _ _ (Oper.mk _ (Op.load 42 _) _ _ _ _ :: _) _ _); refine loadC (K7) rfl rfl rfl ?_) | ((with_reducible show wpList _ _ _ (Oper.mk _ (Op.load 42 _) _ _ _ (some _) :: _) _ _); refine loadgC (K7) rfl rfl rfl ?_) | ((with_reducible show wpList _ _ _ (Oper.mk _ (Op.load 47 _) _ _ _ _ :: _) _ _); refine loadB (K9) rfl rfl rfl ?_) | ((with_reducible show wpList _ _ _ (Oper.mk _ (Op.load 47 _) _ _ _ (some _) :: _) _ _); refine loadgB (K9) rfl rfl rfl ?_))
      clear K7
      refine (iM.out _).mono ?_
      rintro e w12 ⟨g2, c2, rfl, hrow, hb⟩
      replace K3 := K3.below hb K3.lt
      replace K5 := K5.below hb K5.lt
      replace K9 := K9.below hb K9.lt
      replace HB : Hid (Below w.heap.size w w12) := HB.out.trans (hb.mono HB.out.size)
      clear hb
      have R := Lib.hid hrow
      clear hrow iM
      go_wp2_with fail
      refine (vHas_any _ _ _ _ _ R.out (by omega)).mono ?_
      rintro e w' ⟨rfl, rfl⟩
      rw [hhas.out]
      clear hhas R
      by_cases hk : k = 2
      · subst hk
        obtain ⟨A, B, iA, iB, a1, a2, a3, a4, a5⟩ := well_two HX.out.1 HX.out.2.1 HX.out.2.2.1 (HX.out.2.2.2 rfl)
        replace iA := Lib.hid iA
        replace iB := Lib.hid iB
        clear HX
        go_wp2_with (first | ((with_reducible show wpList _ _ _ (Oper.mk _ (Op.load 47 _) _ _ _ _ :: _) _ _); refine loadB (K9) rfl rfl rfl ?_) | ((with_reducible show wpList _ _ _ (Oper.mk _ (Op.load 47 _) _ _ _ (some _) :: _) _ _); refine loadgB (K9) rfl rfl rfl ?_))
        refine (iA.out _).mono ?_
        rintro e w13 ⟨rfl, hb⟩
        replace K3 := K3.below hb K3.lt
        replace K5 := K5.below hb K5.lt
        replace K9 := K9.below hb K9.lt
        replace HB : Hid (Below w.heap.size w w13) := HB.out.trans (hb.mono HB.out.size)
        clear hb
        have K17 := Blk.new (w13) 2 (fcF A) 42
        replace K3 := K3.alloc (.cells (mk 2 (fcF A)) 42)
        replace K5 := K5.alloc (.cells (mk 2 (fcF A)) 42)
        replace K9 := K9.alloc (.cells (mk 2 (fcF A)) 42)
        replace HB : Hid (Below w.heap.size w ((w13).alloc (.cells (mk 2 (fcF A)) 42))) := HB.out.alloc HB.out.size _
        clear iA
        go_wp2_with (first | ((with_reducible show wpList _ _ _ (Oper.mk _ (Op.load 47 _) _ _ _ _ :: _) _ _); refine loadB (K9) rfl rfl rfl ?_) | ((with_reducible show wpList _ _ _ (Oper.mk _ (Op.load 47 _) _ _ _ (some _) :: _) _ _); refine loadgB (K9) rfl rfl rfl ?_))
        generalize (w13).alloc (.cells (mk 2 (fcF A)) 42) = w14 at *
        generalize w13.heap.size = b17 at *
        refine (iB.out _).mono ?_
        rintro e w15 ⟨rfl, hb⟩
        replace K3 := K3.below hb K3.lt
        replace K5 := K5.below hb K5.lt
        replace K9 := K9.below hb K9.lt
        replace K17 := K17.below hb K17.lt
        replace HB : Hid (Below w.heap.size w w15) := HB.out.trans (hb.mono HB.out.size)
        clear hb
        have K19 := Blk.new (w15) 2 (fcF B) 42
        replace K3 := K3.alloc (.cells (mk 2 (fcF B)) 42)
        replace K5 := K5.alloc (.cells (mk 2 (fcF B)) 42)
        replace K9 := K9.alloc (.cells (mk 2 (fcF B)) 42)
        replace K17 := K17.alloc (.cells (mk 2 (fcF B)) 42)
        replace HB : Hid (Below w.heap.size w ((w15).alloc (.cells (mk 2 (fcF B)) 42))) := HB.out.alloc HB.out.size _
        clear iB
        have c170 := K17.cell (i := 0) (by omega)
        have c171 := K17.cell (i := 1) (by omega)
        have c190 := K19.cell (i := 0) (by omega)
        have c191 := K19.cell (i := 1) (by omega)
        simp only [fcF0, fcF1] at c170 c171 c190 c191
        clear K17
        clear K19
        clear K9
        generalize A.1 = p1 at *
        generalize A.2 = p2 at *
        generalize B.1 = q1 at *
        generalize B.2 = q2 at *
        have e0 : (p2 : Int) - (p1 : Int) = ((p2 - p1 : Nat) : Int) := by omega
        have e1 : ((p2 - p1 : Nat) : Int) * (q2 : Int) = ((q1 * p2 : Nat) : Int) := by rw [← a5]; exact (Int.natCast_mul _ _).symm
        have e2 : (q1 : Int) * (p2 : Int) = ((q1 * p2 : Nat) : Int) := (Int.natCast_mul _ _).symm
        have e3 : q1 * p2 ≤ 25600 := Nat.mul_le_mul (by omega : q1 ≤ 160) (by omega : p2 ≤ 160)
        have e4 : p2 - p1 ≤ 160 := by omega
        generalize q1 * p2 = Y at *
        generalize p2 - p1 = q at *
        clear a1 a2 a3 a4 a5
        have oY : ((Y : Int) != (Y : Int)) = false := by simp
        cases O with
        | false =>
          clear HK K3
          go_wp2_with (first | ((with_reducible show wpList _ _ _ (Oper.mk _ (Op.load 42 _) _ _ _ _ :: _) _ _); refine loadC (K5) rfl rfl rfl ?_) | ((with_reducible show wpList _ _ _ (Oper.mk _ (Op.load 42 _) _ _ _ (some _) :: _) _ _); refine loadgC (K5) rfl rfl rfl ?_))
          go_ret
          exact ⟨rfl, HB.out⟩
        | true =>
          obtain ⟨hVf, hn4, hCn⟩ := kept_ok HK.out.2.symm
          rw [hCn] at HK
          have HC := Lib.hid HK.out.1
          have HV := Lib.hid hVf
          have iO := Lib.hid (over_of hVf)
          generalize hZ : overR f = Z at iO
          have HZ := Lib.hid hZ
          clear HK hCn hVf hZ oO
          go_wp2_with (first | ((with_reducible show wpList _ _ _ (Oper.mk _ (Op.load 47 _) _ _ _ _ :: _) _ _); refine loadB (K3) rfl rfl rfl ?_) | ((with_reducible show wpList _ _ _ (Oper.mk _ (Op.load 47 _) _ _ _ (some _) :: _) _ _); refine loadgB (K3) rfl rfl rfl ?_) | ((with_reducible show wpList _ _ _ (Oper.mk _ (Op.load 42 _) _ _ _ _ :: _) _ _); refine loadC (K5) rfl rfl rfl ?_) | ((with_reducible show wpList _ _ _ (Oper.mk _ (Op.load 42 _) _ _ _ (some _) :: _) _ _); refine loadgC (K5) rfl rfl rfl ?_))
          refine (iO.out _).mono ?_
          rintro e w16 ⟨rfl, hb⟩
          replace K3 := K3.below hb K3.lt
          replace K5 := K5.below hb K5.lt
          replace HB : Hid (Below w.heap.size w w16) := HB.out.trans (hb.mono HB.out.size)
          clear hb
          clear iO
          rcases hn4 with rfl | rfl | hn4
          · obtain ⟨iL, iN⟩ := kept_case0 HV.out HC.out
            replace iL := Lib.hid iL
            clear HV HC HZ
            go_wp2_with (first | ((with_reducible show wpList _ _ _ (Oper.mk _ (Op.load 42 _) _ _ _ _ :: _) _ _); refine loadC (K5) rfl rfl rfl ?_) | ((with_reducible show wpList _ _ _ (Oper.mk _ (Op.load 42 _) _ _ _ (some _) :: _) _ _); refine loadgC (K5) rfl rfl rfl ?_))
            refine (iL.out _).mono ?_
            rintro e w17 ⟨rfl, hb⟩
            replace K3 := K3.below hb K3.lt
            replace K5 := K5.below hb K5.lt
            replace HB : Hid (Below w.heap.size w w17) := HB.out.trans (hb.mono HB.out.size)
            clear hb
            clear iL
            go_wp2_with (first | ((with_reducible show wpList _ _ _ (Oper.mk _ (Op.load 42 _) _ _ _ _ :: _) _ _); refine loadC (K5) rfl rfl rfl ?_) | ((with_reducible show wpList _ _ _ (Oper.mk _ (Op.load 42 _) _ _ _ (some _) :: _) _ _); refine loadgC (K5) rfl rfl rfl ?_) | ((with_reducible show wpList _ _ _ (Oper.mk _ (Op.load 47 _) _ _ _ _ :: _) _ _); refine loadB (K3) rfl rfl rfl ?_) | ((with_reducible show wpList _ _ _ (Oper.mk _ (Op.load 47 _) _ _ _ (some _) :: _) _ _); refine loadgB (K3) rfl rfl rfl ?_))
            go_ret
            exact ⟨rfl, HB.out⟩
          · obtain ⟨iL, iE, iZ, C0, iC, iF⟩ := kept_case1 HV.out HC.out HZ.out
            have oZ : ((!Z) == Z) = false := by cases Z <;> rfl
            replace iZ := Lib.hid iZ
            replace iL := Lib.hid iL
            replace iC := Lib.hid iC
            replace iF := Lib.hid iF
            clear HV HC HZ
            go_wp2_with (first | ((with_reducible show wpList _ _ _ (Oper.mk _ (Op.load 42 _) _ _ _ _ :: _) _ _); refine loadC (K5) rfl rfl rfl ?_) | ((with_reducible show wpList _ _ _ (Oper.mk _ (Op.load 42 _) _ _ _ (some _) :: _) _ _); refine loadgC (K5) rfl rfl rfl ?_))
            refine (iL.out _).mono ?_
            rintro e w17 ⟨rfl, hb⟩
            replace K3 := K3.below hb K3.lt
            replace K5 := K5.below hb K5.lt
            replace HB : Hid (Below w.heap.size w w17) := HB.out.trans (hb.mono HB.out.size)
            clear hb
            clear iL
            go_wp2_with (first | ((with_reducible show wpList _ _ _ (Oper.mk _ (Op.load 42 _) _ _ _ _ :: _) _ _); refine loadC (K5) rfl rfl rfl ?_) | ((with_reducible show wpList _ _ _ (Oper.mk _ (Op.load 42 _) _ _ _ (some _) :: _) _ _); refine loadgC (K5) rfl rfl rfl ?_) | ((with_reducible show wpList _ _ _ (Oper.mk _ (Op.load 47 _) _ _ _ _ :: _) _ _); refine loadB (K3) rfl rfl rfl ?_) | ((with_reducible show wpList _ _ _ (Oper.mk _ (Op.load 47 _) _ _ _ (some _) :: _) _ _); refine loadgB (K3) rfl rfl rfl ?_))
            refine (iC.out _).mono ?_
            rintro e w18 ⟨rfl, hb⟩
            replace K3 := K3.below hb K3.lt
            replace K5 := K5.below hb K5.lt
            replace HB : Hid (Below w.heap.size w w18) := HB.out.trans (hb.mono HB.out.size)
            clear hb
            clear iC
            clear K3
            have K23 := Blk.new (w18) 2 (fcF C0) 42
            replace K5 := K5.alloc (.cells (mk 2 (fcF C0)) 42)
            replace HB : Hid (Below w.heap.size w ((w18).alloc (.cells (mk 2 (fcF C0)) 42))) := HB.out.alloc HB.out.size _
            go_wp2_with (first | ((with_reducible show wpList _ _ _ (Oper.mk _ (Op.load 42 _) _ _ _ _ :: _) _ _); refine loadC (K23) rfl rfl rfl ?_) | ((with_reducible show wpList _ _ _ (Oper.mk _ (Op.load 42 _) _ _ _ (some _) :: _) _ _); refine loadgC (K23) rfl rfl rfl ?_) | ((with_reducible show wpList _ _ _ (Oper.mk _ (Op.load 42 _) _ _ _ _ :: _) _ _); refine loadC (K5) rfl rfl rfl ?_) | ((with_reducible show wpList _ _ _ (Oper.mk _ (Op.load 42 _) _ _ _ (some _) :: _) _ _); refine loadgC (K5) rfl rfl rfl ?_))
            generalize (w18).alloc (.cells (mk 2 (fcF C0)) 42) = w19 at *
            clear K23
            refine (iF.out _).mono ?_
            rintro e w20 ⟨rfl, hb⟩
            replace K5 := K5.below hb K5.lt
            replace HB : Hid (Below w.heap.size w w20) := HB.out.trans (hb.mono HB.out.size)
            clear hb
            clear iF
            cases Z with
            | true =>
              have iZ := iZ.out rfl
              go_wp2_with (first | ((with_reducible show wpList _ _ _ (Oper.mk _ (Op.load 42 _) _ _ _ _ :: _) _ _); refine loadC (K5) rfl rfl rfl ?_) | ((with_reducible show wpList _ _ _ (Oper.mk _ (Op.load 42 _) _ _ _ (some _) :: _) _ _); refine loadgC (K5) rfl rfl rfl ?_))
              go_ret
              exact ⟨rfl, HB.out⟩
            | false =>
              clear iZ
              go_wp2_with (first | ((with_reducible show wpList _ _ _ (Oper.mk _ (Op.load 42 _) _ _ _ _ :: _) _ _); refine loadC (K5) rfl rfl rfl ?_) | ((with_reducible show wpList _ _ _ (Oper.mk _ (Op.load 42 _) _ _ _ (some _) :: _) _ _); refine loadgC (K5) rfl rfl rfl ?_))
              go_ret
              exact ⟨rfl, HB.out⟩
          · obtain ⟨iL, iZ, C0, iC, iF⟩ := kept_case2 HV.out HC.out HZ.out hn4
            have n0 : (n == 0) = false := by simp; omega
            have n1 : (n == 1) = false := by simp; omega
            have n2 : n > 0 := by omega
            have n3 : n ≤ 3 := by omega
            clear hn4
            replace iZ := Lib.hid iZ
            replace iL := Lib.hid iL
            replace iC := Lib.hid iC
            replace iF := Lib.hid iF
            clear HV HC HZ
            go_wp2_with (first | ((with_reducible show wpList _ _ _ (Oper.mk _ (Op.load 42 _) _ _ _ _ :: _) _ _); refine loadC (K5) rfl rfl rfl ?_) | ((with_reducible show wpList _ _ _ (Oper.mk _ (Op.load 42 _) _ _ _ (some _) :: _) _ _); refine loadgC (K5) rfl rfl rfl ?_))
            refine (iL.out _).mono ?_
            rintro e w17 ⟨rfl, hb⟩
            replace K3 := K3.below hb K3.lt
            replace K5 := K5.below hb K5.lt
            replace HB : Hid (Below w.heap.size w w17) := HB.out.trans (hb.mono HB.out.size)
            clear hb
            clear iL
            go_wp2_with (first | ((with_reducible show wpList _ _ _ (Oper.mk _ (Op.load 42 _) _ _ _ _ :: _) _ _); refine loadC (K5) rfl rfl rfl ?_) | ((with_reducible show wpList _ _ _ (Oper.mk _ (Op.load 42 _) _ _ _ (some _) :: _) _ _); refine loadgC (K5) rfl rfl rfl ?_) | ((with_reducible show wpList _ _ _ (Oper.mk _ (Op.load 47 _) _ _ _ _ :: _) _ _); refine loadB (K3) rfl rfl rfl ?_) | ((with_reducible show wpList _ _ _ (Oper.mk _ (Op.load 47 _) _ _ _ (some _) :: _) _ _); refine loadgB (K3) rfl rfl rfl ?_))
            refine (iC.out _).mono ?_
            rintro e w18 ⟨rfl, hb⟩
            replace K3 := K3.below hb K3.lt
            replace K5 := K5.below hb K5.lt
            replace HB : Hid (Below w.heap.size w w18) := HB.out.trans (hb.mono HB.out.size)
            clear hb
            clear iC
            clear K3
            have K23 := Blk.new (w18) 2 (fcF C0) 42
            replace K5 := K5.alloc (.cells (mk 2 (fcF C0)) 42)
            replace HB : Hid (Below w.heap.size w ((w18).alloc (.cells (mk 2 (fcF C0)) 42))) := HB.out.alloc HB.out.size _
            go_wp2_with (first | ((with_reducible show wpList _ _ _ (Oper.mk _ (Op.load 42 _) _ _ _ _ :: _) _ _); refine loadC (K23) rfl rfl rfl ?_) | ((with_reducible show wpList _ _ _ (Oper.mk _ (Op.load 42 _) _ _ _ (some _) :: _) _ _); refine loadgC (K23) rfl rfl rfl ?_) | ((with_reducible show wpList _ _ _ (Oper.mk _ (Op.load 42 _) _ _ _ _ :: _) _ _); refine loadC (K5) rfl rfl rfl ?_) | ((with_reducible show wpList _ _ _ (Oper.mk _ (Op.load 42 _) _ _ _ (some _) :: _) _ _); refine loadgC (K5) rfl rfl rfl ?_))
            generalize (w18).alloc (.cells (mk 2 (fcF C0)) 42) = w19 at *
            clear K23
            refine (iF.out _).mono ?_
            rintro e w20 ⟨rfl, hb⟩
            replace K5 := K5.below hb K5.lt
            replace HB : Hid (Below w.heap.size w w20) := HB.out.trans (hb.mono HB.out.size)
            clear hb
            clear iF
            cases Z with
            | true =>
              have iZ := iZ.out rfl
              go_wp2_with (first | ((with_reducible show wpList _ _ _ (Oper.mk _ (Op.load 42 _) _ _ _ _ :: _) _ _); refine loadC (K5) rfl rfl rfl ?_) | ((with_reducible show wpList _ _ _ (Oper.mk _ (Op.load 42 _) _ _ _ (some _) :: _) _ _); refine loadgC (K5) rfl rfl rfl ?_))
              go_ret
              exact ⟨rfl, HB.out⟩
            | false =>
              clear iZ
              go_wp2_with (first | ((with_reducible show wpList _ _ _ (Oper.mk _ (Op.load 42 _) _ _ _ _ :: _) _ _); refine loadC (K5) rfl rfl rfl ?_) | ((with_reducible show wpList _ _ _ (Oper.mk _ (Op.load 42 _) _ _ _ (some _) :: _) _ _); refine loadgC (K5) rfl rfl rfl ?_))
              go_ret
              exact ⟨rfl, HB.out⟩
      · have dk : (k == 2) = false := by simpa using hk
        clear HX
        clear K9
        cases O with
        | false =>
          clear HK K3
          go_wp2_with (first | ((with_reducible show wpList _ _ _ (Oper.mk _ (Op.load 42 _) _ _ _ _ :: _) _ _); refine loadC (K5) rfl rfl rfl ?_) | ((with_reducible show wpList _ _ _ (Oper.mk _ (Op.load 42 _) _ _ _ (some _) :: _) _ _); refine loadgC (K5) rfl rfl rfl ?_))
          go_ret
          exact ⟨rfl, HB.out⟩
        | true =>
          obtain ⟨hVf, hn4, hCn⟩ := kept_ok HK.out.2.symm
          rw [hCn] at HK
          have HC := Lib.hid HK.out.1
          have HV := Lib.hid hVf
          have iO := Lib.hid (over_of hVf)
          generalize hZ : overR f = Z at iO
          have HZ := Lib.hid hZ
          clear HK hCn hVf hZ oO
          go_wp2_with (first | ((with_reducible show wpList _ _ _ (Oper.mk _ (Op.load 47 _) _ _ _ _ :: _) _ _); refine loadB (K3) rfl rfl rfl ?_) | ((with_reducible show wpList _ _ _ (Oper.mk _ (Op.load 47 _) _ _ _ (some _) :: _) _ _); refine loadgB (K3) rfl rfl rfl ?_) | ((with_reducible show wpList _ _ _ (Oper.mk _ (Op.load 42 _) _ _ _ _ :: _) _ _); refine loadC (K5) rfl rfl rfl ?_) | ((with_reducible show wpList _ _ _ (Oper.mk _ (Op.load 42 _) _ _ _ (some _) :: _) _ _); refine loadgC (K5) rfl rfl rfl ?_))
          refine (iO.out _).mono ?_
          rintro e w13 ⟨rfl, hb⟩
          replace K3 := K3.below hb K3.lt
          replace K5 := K5.below hb K5.lt
          replace HB : Hid (Below w.heap.size w w13) := HB.out.trans (hb.mono HB.out.size)
          clear hb
          clear iO
          rcases hn4 with rfl | rfl | hn4
          · obtain ⟨iL, iN⟩ := kept_case0 HV.out HC.out
            replace iL := Lib.hid iL
            clear HV HC HZ
            go_wp2_with (first | ((with_reducible show wpList _ _ _ (Oper.mk _ (Op.load 42 _) _ _ _ _ :: _) _ _); refine loadC (K5) rfl rfl rfl ?_) | ((with_reducible show wpList _ _ _ (Oper.mk _ (Op.load 42 _) _ _ _ (some _) :: _) _ _); refine loadgC (K5) rfl rfl rfl ?_))
            refine (iL.out _).mono ?_
            rintro e w14 ⟨rfl, hb⟩
            replace K3 := K3.below hb K3.lt
            replace K5 := K5.below hb K5.lt
            replace HB : Hid (Below w.heap.size w w14) := HB.out.trans (hb.mono HB.out.size)
            clear hb
            clear iL
            go_wp2_with (first | ((with_reducible show wpList _ _ _ (Oper.mk _ (Op.load 42 _) _ _ _ _ :: _) _ _); refine loadC (K5) rfl rfl rfl ?_) | ((with_reducible show wpList _ _ _ (Oper.mk _ (Op.load 42 _) _ _ _ (some _) :: _) _ _); refine loadgC (K5) rfl rfl rfl ?_) | ((with_reducible show wpList _ _ _ (Oper.mk _ (Op.load 47 _) _ _ _ _ :: _) _ _); refine loadB (K3) rfl rfl rfl ?_) | ((with_reducible show wpList _ _ _ (Oper.mk _ (Op.load 47 _) _ _ _ (some _) :: _) _ _); refine loadgB (K3) rfl rfl rfl ?_))
            go_ret
            exact ⟨rfl, HB.out⟩
          · obtain ⟨iL, iE, iZ, C0, iC, iF⟩ := kept_case1 HV.out HC.out HZ.out
            have oZ : ((!Z) == Z) = false := by cases Z <;> rfl
            replace iZ := Lib.hid iZ
            replace iL := Lib.hid iL
            replace iC := Lib.hid iC
            replace iF := Lib.hid iF
            clear HV HC HZ
            go_wp2_with (first | ((with_reducible show wpList _ _ _ (Oper.mk _ (Op.load 42 _) _ _ _ _ :: _) _ _); refine loadC (K5) rfl rfl rfl ?_) | ((with_reducible show wpList _ _ _ (Oper.mk _ (Op.load 42 _) _ _ _ (some _) :: _) _ _); refine loadgC (K5) rfl rfl rfl ?_))
            refine (iL.out _).mono ?_
            rintro e w14 ⟨rfl, hb⟩
            replace K3 := K3.below hb K3.lt
            replace K5 := K5.below hb K5.lt
            replace HB : Hid (Below w.heap.size w w14) := HB.out.trans (hb.mono HB.out.size)
            clear hb
            clear iL
            go_wp2_with (first | ((with_reducible show wpList _ _ _ (Oper.mk _ (Op.load 42 _) _ _ _ _ :: _) _ _); refine loadC (K5) rfl rfl rfl ?_) | ((with_reducible show wpList _ _ _ (Oper.mk _ (Op.load 42 _) _ _ _ (some _) :: _) _ _); refine loadgC (K5) rfl rfl rfl ?_) | ((with_reducible show wpList _ _ _ (Oper.mk _ (Op.load 47 _) _ _ _ _ :: _) _ _); refine loadB (K3) rfl rfl rfl ?_) | ((with_reducible show wpList _ _ _ (Oper.mk _ (Op.load 47 _) _ _ _ (some _) :: _) _ _); refine loadgB (K3) rfl rfl rfl ?_))
            refine (iC.out _).mono ?_
            rintro e w15 ⟨rfl, hb⟩
            replace K3 := K3.below hb K3.lt
            replace K5 := K5.below hb K5.lt
            replace HB : Hid (Below w.heap.size w w15) := HB.out.trans (hb.mono HB.out.size)
            clear hb
            clear iC
            clear K3
            have K23 := Blk.new (w15) 2 (fcF C0) 42
            replace K5 := K5.alloc (.cells (mk 2 (fcF C0)) 42)
            replace HB : Hid (Below w.heap.size w ((w15).alloc (.cells (mk 2 (fcF C0)) 42))) := HB.out.alloc HB.out.size _
            go_wp2_with (first | ((with_reducible show wpList _ _ _ (Oper.mk _ (Op.load 42 _) _ _ _ _ :: _) _ _); refine loadC (K23) rfl rfl rfl ?_) | ((with_reducible show wpList _ _ _ (Oper.mk _ (Op.load 42 _) _ _ _ (some _) :: _) _ _); refine loadgC (K23) rfl rfl rfl ?_) | ((with_reducible show wpList _ _ _ (Oper.mk _ (Op.load 42 _) _ _ _ _ :: _) _ _); refine loadC (K5) rfl rfl rfl ?_) | ((with_reducible show wpList _ _ _ (Oper.mk _ (Op.load 42 _) _ _ _ (some _) :: _) _ _); refine loadgC (K5) rfl rfl rfl ?_))
            generalize (w15).alloc (.cells (mk 2 (fcF C0)) 42) = w16 at *
            clear K23
            refine (iF.out _).mono ?_
            rintro e w17 ⟨rfl, hb⟩
            replace K5 := K5.below hb K5.lt
            replace HB : Hid (Below w.heap.size w w17) := HB.out.trans (hb.mono HB.out.size)
            clear hb
            clear iF
            cases Z with
            | true =>
              have iZ := iZ.out rfl
              go_wp2_with (first | ((with_reducible show wpList _ _ _ (Oper.mk _ (Op.load 42 _) _ _ _ _ :: _) _ _); refine loadC (K5) rfl rfl rfl ?_) | ((with_reducible show wpList _ _ _ (Oper.mk _ (Op.load 42 _) _ _ _ (some _) :: _) _ _); refine loadgC (K5) rfl rfl rfl ?_))
              go_ret
              exact ⟨rfl, HB.out⟩
            | false =>
              clear iZ
              go_wp2_with (first | ((with_reducible show wpList _ _ _ (Oper.mk _ (Op.load 42 _) _ _ _ _ :: _) _ _); refine loadC (K5) rfl rfl rfl ?_) | ((with_reducible show wpList _ _ _ (Oper.mk _ (Op.load 42 _) _ _ _ (some _) :: _) _ _); refine loadgC (K5) rfl rfl rfl ?_))
              go_ret
              exact ⟨rfl, HB.out⟩
          · obtain ⟨iL, iZ, C0, iC, iF⟩ := kept_case2 HV.out HC.out HZ.out hn4
            have n0 : (n == 0) = false := by simp; omega
            have n1 : (n == 1) = false := by simp; omega
            have n2 : n > 0 := by omega
            have n3 : n ≤ 3 := by omega
            clear hn4
            replace iZ := Lib.hid iZ
            replace iL := Lib.hid iL
            replace iC := Lib.hid iC
            replace iF := Lib.hid iF
            clear HV HC HZ
            go_wp2_with (first | ((with_reducible show wpList _ _ _ (Oper.mk _ (Op.load 42 _) _ _ _ _ :: _) _ _); refine loadC (K5) rfl rfl rfl ?_) | ((with_reducible show wpList _ _ _ (Oper.mk _ (Op.load 42 _) _ _ _ (some _) :: _) _ _); refine loadgC (K5) rfl rfl rfl ?_))
            refine (iL.out _).mono ?_
            rintro e w14 ⟨rfl, hb⟩
            replace K3 := K3.below hb K3.lt
            replace K5 := K5.below hb K5.lt
            replace HB : Hid (Below w.heap.size w w14) := HB.out.trans (hb.mono HB.out.size)
            clear hb
            clear iL
            go_wp2_with (first | ((with_reducible show wpList _ _ _ (Oper.mk _ (Op.load 42 _) _ _ _ _ :: _) _ _); refine loadC (K5) rfl rfl rfl ?_) | ((with_reducible show wpList _ _ _ (Oper.mk _ (Op.load 42 _) _ _ _ (some _) :: _) _ _); refine loadgC (K5) rfl rfl rfl ?_) | ((with_reducible show wpList _ _ _ (Oper.mk _ (Op.load 47 _) _ _ _ _ :: _) _ _); refine loadB (K3) rfl rfl rfl ?_) | ((with_reducible show wpList _ _ _ (Oper.mk _ (Op.load 47 _) _ _ _ (some _) :: _) _ _); refine loadgB (K3) rfl rfl rfl ?_))
            refine (iC.out _).mono ?_
            rintro e w15 ⟨rfl, hb⟩
            replace K3 := K3.below hb K3.lt
            replace K5 := K5.below hb K5.lt
            replace HB : Hid (Below w.heap.size w w15) := HB.out.trans (hb.mono HB.out.size)
            clear hb
            clear iC
            clear K3
            have K23 := Blk.new (w15) 2 (fcF C0) 42
            replace K5 := K5.alloc (.cells (mk 2 (fcF C0)) 42)
            replace HB : Hid (Below w.heap.size w ((w15).alloc (.cells (mk 2 (fcF C0)) 42))) := HB.out.alloc HB.out.size _
            go_wp2_with (first | ((with_reducible show wpList _ _ _ (Oper.mk _ (Op.load 42 _) _ _ _ _ :: _) _ _); refine loadC (K23) rfl rfl rfl ?_) | ((with_reducible show wpList _ _ _ (Oper.mk _ (Op.load 42 _) _ _ _ (some _) :: _) _ _); refine loadgC (K23) rfl rfl rfl ?_) | ((with_reducible show wpList _ _ _ (Oper.mk _ (Op.load 42 _) _ _ _ _ :: _) _ _); refine loadC (K5) rfl rfl rfl ?_) | ((with_reducible show wpList _ _ _ (Oper.mk _ (Op.load 42 _) _ _ _ (some _) :: _) _ _); refine loadgC (K5) rfl rfl rfl ?_))
            generalize (w15).alloc (.cells (mk 2 (fcF C0)) 42) = w16 at *
            clear K23
            refine (iF.out _).mono ?_
            rintro e w17 ⟨rfl, hb⟩
            replace K5 := K5.below hb K5.lt
            replace HB : Hid (Below w.heap.size w w17) := HB.out.trans (hb.mono HB.out.size)
            clear hb
            clear iF
            cases Z with
            | true =>
              have iZ := iZ.out rfl
              go_wp2_with (first | ((with_reducible show wpList _ _ _ (Oper.mk _ (Op.load 42 _) _ _ _ _ :: _) _ _); refine loadC (K5) rfl rfl rfl ?_) | ((with_reducible show wpList _ _ _ (Oper.mk _ (Op.load 42 _) _ _ _ (some _) :: _) _ _); refine loadgC (K5) rfl rfl rfl ?_))
              go_ret
              exact ⟨rfl, HB.out⟩
            | false =>
              clear iZ
              go_wp2_with (first | ((with_reducible show wpList _ _ _ (Oper.mk _ (Op.load 42 _) _ _ _ _ :: _) _ _); refine loadC (K5) rfl rfl rfl ?_) | ((with_reducible show wpList _ _ _ (Oper.mk _ (Op.load 42 _) _ _ _ (some _) :: _) _ _); refine loadgC (K5) rfl rfl rfl ?_))
              go_ret
              exact ⟨rfl, HB.out⟩
  · have dl : decide ((65536 : Int) < (len0 : Int)) = true := by simp; omega
    go_enter Try.func8, Try.ntmps8
    go_wp2_with fail
    refine (vBig_any a0 len0 cap0 _).mono ?_
    rintro e w' ⟨rfl, rfl⟩
    rw [dl]
    go_wp2_with fail
    go_ret
    exact ⟨rfl, HB.out⟩


end Go.Proofs.Ytblcojacmjbjcab.fnKept
