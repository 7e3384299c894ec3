/-
  Proved: for every code, the law FnFirstForms returns true, and the code reads as it did. No condition.
-/
import Derived.Test.YtpiegllffkjneaaDrawSame
import Derived.Test.YtpiegllffkjneaaVHelp
import Derived.Test.YtpiegllffkjneaaFirstPlain
import Derived.Test.YtpiegllffkjneaaSym
import Derived.Test.YtpiegllffkjneaaFirstForm
import Derived.Test.YtpiegllffkjneaaImplFormsOf
import Derived.Test.YtpiegllffkjneaaSpecFormsOf
import Derived.Test.YtpiegllffkjneaaImplDist
import Derived.Test.YtpiegllffkjneaaSpecDist
import Derived.Test.YtpiegllffkjneaaImplForm3
import Derived.Test.YtpiegllffkjneaaClosed
namespace Go.Proofs.Ytpiegllffkjneaa.fnFirstForms
open Go.ChangeShapes Go.WideShapes Go.ChangeAt Go.RowKit Plain
attribute [local go_sem] store_new
set_option linter.unusedSimpArgs false
set_option linter.unusedVariables false
theorem isRow_kept {k : IntKind} {w w' : World} {a : Option Addr} {len cap : Nat} {z : List Int} (h : IsRow k w a len cap z) (hb : Below w.heap.size w w') : IsRow k w' a len cap z := by
  rcases h with h | ⟨x, h0, h1, h2, h3, h4, h5⟩
  · exact .inl h
  · refine .inr ⟨x, h0, h1, h2, h3, fun i hi => ?_, h5⟩
    have := h4 i hi
    exact (hb.cell (World.block_lt_of_cell? w _ this)).trans this
theorem irow_of {w : World} {base g cap : Nat} {xs : List Int} (h : OwnsInts w base (.slice (some ⟨g, 0, none⟩) xs.length cap) xs) : IRow w (.slice (some ⟨g, 0, none⟩) xs.length cap) xs.length (fun i => xs.getD i 0) := by
  unfold OwnsInts at h
  rw [ints_mk] at h
  exact IRow.of_own h
theorem vInts_b (v u : Value) (n : Nat) (h : Nat → Int) (w : World) (hv : IRow w v n h) (hu : IRow w u n h) (hn : n ≤ 1048576) :
    Calls Try.prog 27 #[v, u] w fun e w' => e = .returned (.bool true) ∧ Below w.heap.size w w' :=
  (vInts_yes v u n h w hv hu hn).mono fun e w' ⟨q1, k, q2⟩ => ⟨q1, by rw [q2]; exact below_drewN (Below.refl _ _) _⟩
set_option maxHeartbeats 16000000 in
set_option maxRecDepth 100000 in
theorem walk (w : World) (_ : w.ShapedOpen Try.prog) (a0 : Option Addr) (len0 cap0 : Nat) (z0 : List Int) (hr : IsRow .u8 w a0 len0 cap0 z0) :
    Calls Try.prog 3 #[.slice a0 len0 cap0] w fun e w' => e = .returned (.bool true) ∧ Below w.heap.size w w' := by
  have z16 := zero16
  have HR := Lib.hid hr
  have HB : Hid (Below w.heap.size w w) := Below.refl w.heap.size w
  clear hr
  by_cases hl : len0 ≤ 65536
  · have dl : decide ((65536 : Int) < (len0 : Int)) = false := by simp; omega
    go_enter Try.func3, Try.ntmps3
    go_wp2_with fail
    refine (vBig_any a0 len0 cap0 _).mono ?_
    rintro e w' ⟨rfl, rfl⟩
    rw [dl]
    clear dl
    go_wp2_with fail
    refine (drawFirstForm_any a0 len0 cap0 _ hl (HR.out.code)).mono ?_
    rintro e w1 ⟨f, rfl, hb⟩
    replace HB : Hid (Below w.heap.size w w1) := HB.out.trans (hb.mono HB.out.size)
    clear hb
    have K3 := Blk.new w1 16 f 27
    replace HB : Hid (Below w.heap.size w (w1.alloc (.cells (mk 16 f) 27))) := HB.out.alloc HB.out.size _
    by_cases hV : Vd f
    · have hVO : vdO f = true := vdO_yes hV
      obtain ⟨FB, hFB⟩ : ∃ F, F = fstRB f := ⟨_, rfl⟩
      obtain ⟨FN, hFN⟩ : ∃ F, F = fstRN f := ⟨_, rfl⟩
      obtain ⟨CM, hCM⟩ : ∃ F, F = cfmR f := ⟨_, rfl⟩
      obtain ⟨n1, hn1⟩ : ∃ F, F = (symR f).length := ⟨_, rfl⟩
      obtain ⟨h1, hh1⟩ : ∃ F, F = (fun i => (symR f).getD i 0) := ⟨_, rfl⟩
      obtain ⟨n2, hn2⟩ : ∃ F, F = (foR f).length := ⟨_, rfl⟩
      obtain ⟨h2, hh2⟩ : ∃ F, F = flatF (foR f) := ⟨_, rfl⟩
      obtain ⟨n3, hn3⟩ : ∃ F, F = (dmR f).length := ⟨_, rfl⟩
      obtain ⟨h3, hh3⟩ : ∃ F, F = (fun i => (dmR f).getD i 0) := ⟨_, rfl⟩
      obtain ⟨n4, hn4⟩ : ∃ F, F = (movR f).length := ⟨_, rfl⟩
      obtain ⟨h4, hh4⟩ : ∃ F, F = (fun i => (movR f).getD i 0) := ⟨_, rfl⟩
      have iFF : Hid (∀ W, Calls Try.prog 13 #[.agg (mk 16 f)] W fun e w' => e = .returned (.tuple #[.agg (mk 16 FB), .int .i64 FN, .bool true]) ∧ Below W.heap.size W w') := by show ∀ W, _; rw [hFB, hFN, ← hVO]; exact implFirst_any f
      have iCF : Hid (∀ W, Calls Try.prog 17 #[.agg (mk 16 f)] W fun e w' => e = .returned (.tuple #[.int .i64 CM, .bool true]) ∧ Below W.heap.size W w') := by show ∀ W, _; rw [hCM, ← hVO]; exact implCount8_any f
      have iSY : Hid (∀ W, Calls Try.prog 15 #[.agg (mk 16 f)] W fun e w' => ∃ g c, e = .returned (.tuple #[.slice (some ⟨g, 0, none⟩) n1 c, .bool true]) ∧ IRow w' (.slice (some ⟨g, 0, none⟩) n1 c) n1 h1 ∧ Below W.heap.size W w') := by show ∀ W, _; intro W; rw [hn1, hh1, ← hVO]; exact (implSym_any f W).mono fun e w' ⟨g, c, q1, q2, q3⟩ => ⟨g, c, q1, irow_of q2, q3⟩
      have iFO : Hid (∀ W, Calls Try.prog 19 #[.agg (mk 16 f)] W fun e w' => ∃ g c, e = .returned (.tuple #[.slice (some ⟨g, 0, none⟩) n2 c, .bool true]) ∧ KRow 16 w' (.slice (some ⟨g, 0, none⟩) n2 c) n2 h2 ∧ Below W.heap.size W w') := by show ∀ W, _; intro W; rw [hn2, hh2, ← hVO]; exact (implFormsOf_any f W).mono fun e w' ⟨g, c, q1, q2, q3⟩ => ⟨g, c, q1, KRow.of_list (foR_len f) q2, q3⟩
      have iDM : Hid (∀ W, Calls Try.prog 21 #[.agg (mk 16 f)] W fun e w' => ∃ g c, e = .returned (.tuple #[.slice (some ⟨g, 0, none⟩) n3 c, .bool true]) ∧ IRow w' (.slice (some ⟨g, 0, none⟩) n3 c) n3 h3 ∧ Below W.heap.size W w') := by show ∀ W, _; intro W; rw [hn3, hh3, ← hVO]; exact (implDist_any f W).mono fun e w' ⟨g, c, q1, q2, q3⟩ => ⟨g, c, q1, irow_of q2, q3⟩
      have sFF : Hid (∀ W, Calls Try.prog 14 #[.agg (mk 16 f)] W fun e w' => e = .returned (.tuple #[.agg (mk 16 FB), .int .i64 FN, .bool true]) ∧ Below W.heap.size W w') := by show ∀ W, _; rw [hFB, hFN, ← hVO]; exact specFirst_any f
      have sCF : Hid (∀ W, Calls Try.prog 18 #[.agg (mk 16 f)] W fun e w' => e = .returned (.tuple #[.int .i64 CM, .bool true]) ∧ Below W.heap.size W w') := by show ∀ W, _; rw [hCM, ← hVO]; exact specCount8_any f
      have sSY : Hid (∀ W, Calls Try.prog 16 #[.agg (mk 16 f)] W fun e w' => ∃ g c, e = .returned (.tuple #[.slice (some ⟨g, 0, none⟩) n1 c, .bool true]) ∧ IRow w' (.slice (some ⟨g, 0, none⟩) n1 c) n1 h1 ∧ Below W.heap.size W w') := by show ∀ W, _; intro W; rw [hn1, hh1, ← hVO]; exact (specSym_any f W).mono fun e w' ⟨g, c, q1, q2, q3⟩ => ⟨g, c, q1, irow_of q2, q3⟩
      have sFO : Hid (∀ W, Calls Try.prog 20 #[.agg (mk 16 f)] W fun e w' => ∃ g c, e = .returned (.tuple #[.slice (some ⟨g, 0, none⟩) n2 c, .bool true]) ∧ KRow 16 w' (.slice (some ⟨g, 0, none⟩) n2 c) n2 h2 ∧ Below W.heap.size W w') := by show ∀ W, _; intro W; rw [hn2, hh2, ← hVO]; exact (specFormsOf_any f W).mono fun e w' ⟨g, c, q1, q2, q3⟩ => ⟨g, c, q1, KRow.of_list (foR_len f) q2, q3⟩
      have sDM : Hid (∀ W, Calls Try.prog 22 #[.agg (mk 16 f)] W fun e w' => ∃ g c, e = .returned (.tuple #[.slice (some ⟨g, 0, none⟩) n3 c, .bool true]) ∧ IRow w' (.slice (some ⟨g, 0, none⟩) n3 c) n3 h3 ∧ Below W.heap.size W w') := by show ∀ W, _; intro W; rw [hn3, hh3, ← hVO]; exact (specDist_any f W).mono fun e w' ⟨g, c, q1, q2, q3⟩ => ⟨g, c, q1, irow_of q2, q3⟩
      have l1 : n1 ≤ 8 := by rw [hn1]; exact symR_le f
      have l2 : n2 ≤ 8 := by rw [hn2]; exact foR_le f
      have l3 : n3 ≤ 4 := by rw [hn3]; exact dmR_le f
      have iMV : Hid (∀ W, Calls Try.prog 29 #[.agg (mk 16 f)] W fun e w' => ∃ g c, e = .returned (.tuple #[.slice (some ⟨g, 0, none⟩) n4 c, .bool true]) ∧ IRow w' (.slice (some ⟨g, 0, none⟩) n4 c) n4 h4 ∧ Below W.heap.size W w') := by show ∀ W, _; intro W; rw [hn4, hh4, ← hVO]; exact (implMoves_any f W).mono fun e w' ⟨g, c, q1, q2, q3⟩ => ⟨g, c, q1, irow_of q2, q3⟩
      have l4 : n4 ≤ 4 := by rw [hn4, movR_yes hV]; exact movL_le f 4
      have hn2v : n2 = (insF f 8).length := by rw [hn2, foR_yes hV]
      have hn1v : n1 = (symL f 8).length := by rw [hn1, symR_yes hV]
      have h8 : n2 * n1 = 8 := by rw [hn2v, hn1v]; exact Plain.eight f
      have hCMv : CM = (n2 : Int) := by rw [hCM, cfm_len hV, hn2v]
      have hFBv : FB = fstF f := by rw [hFB, (fstR_yes hV).1]
      have hFNv : FN = (fstN f 8 : Nat) := by rw [hFN, (fstR_yes hV).2]
      have l20 : 0 < n2 := Nat.pos_of_ne_zero fun q => by rw [q] at h8; omega
      have sFL : sameB (fun i => h2 (0 + i)) FB = true := by
        have e0 : (foR f)[0]? = some (cl 16 (fstF f)) := by rw [foR_yes hV]; exact ins_first f
        rw [sameB_iff, hh2, hFBv]; intro j hj
        have := flatF_at (foR_len f) e0 hj
        rw [fn_cl _ j hj, Nat.zero_mul] at this; exact this
      have has0 : hasI h1 n1 0 = true := by
        have := has_sym f (m := 0) (by omega)
        rw [← symR_yes hV, ← hh1, ← hn1] at this
        exact this.trans (sameB_iff.2 fun _ _ => rfl)
      have hdm : n3 = 0 ↔ n4 = 0 := by rw [hn3, hn4, dmR_yes hV, movR_yes hV]; exact dm_none f
      have hle34 : n3 ≤ n4 := by rw [hn3, hn4, dmR_yes hV, movR_yes hV]; have := dm_le f (movL f 4) (movL f 4).length; omega
      have HLP : Hid (∀ m : Nat, m < 8 → ∃ (G FF : Nat → Int) (q : Int) (h5 : Nat → Int), (∀ W, Calls Try.prog 31 #[.agg (mk 16 f), .int .i64 m] W fun e w' => e = .returned (.tuple #[.agg (mk 16 G), .bool true]) ∧ Below W.heap.size W w') ∧ (∀ W, Calls Try.prog 13 #[.agg (mk 16 G)] W fun e w' => e = .returned (.tuple #[.agg (mk 16 FF), .int .i64 q, .bool true]) ∧ Below W.heap.size W w') ∧ sameB FF FB = true ∧ (∀ W, Calls Try.prog 21 #[.agg (mk 16 G)] W fun e w' => ∃ g c, e = .returned (.tuple #[.slice (some ⟨g, 0, none⟩) n3 c, .bool true]) ∧ IRow w' (.slice (some ⟨g, 0, none⟩) n3 c) n3 h5 ∧ Below W.heap.size W w') ∧ hasI h1 n1 (m : Int) = sameB G f ∧ (sameB G FB = true → decide ((m : Int) < FN) = false)) := fun m hm => by
        have hVm := form_vd hV m
        refine ⟨formF f m, fstF (formF f m), fstRN (formF f m), (fun i => (dmR (formF f m)).getD i 0), fun W => ?_, fun W => ?_, ?_, fun W => ?_, ?_, fun q => ?_⟩
        · have h9 := implForm_any f (m : Int) W
          obtain ⟨y1, y2⟩ := form_yes (f := f) (k := (m : Int)) ⟨hV, by omega, by omega⟩
          rw [y1, y2, Int.toNat_natCast] at h9; exact h9
        · have h9 := implFirst_any (formF f m) W
          rw [(fstR_yes hVm).1, vdO_yes hVm] at h9; exact h9
        · rw [hFBv, sameB_iff]; exact cl_inj.1 (fst_form f hm)
        · have e3 : n3 = (dmR (formF f m)).length := by rw [hn3, dmR_yes hV, dmR_yes hVm]; exact (dm_form f hm).symm
          rw [e3]
          have h9 := implDist_any (formF f m) W
          rw [vdO_yes hVm] at h9
          exact h9.mono fun e w' ⟨g, c, q1, q2, q3⟩ => ⟨g, c, q1, irow_of q2, q3⟩
        · have := has_sym f hm
          rw [← symR_yes hV, ← hh1, ← hn1] at this; exact this
        · rw [decide_eq_false_iff_not, hFNv]; intro hlt
          have h9 := fst_least f (m := m) (by omega)
          rw [hFBv] at q; rw [q] at h9; cases h9
      have e8 : IntKind.i64.wrap ((n2 : Int) * (n1 : Int)) = 8 := by rw [← Int.natCast_mul, h8]; rfl
      obtain ⟨Z3, hZ3⟩ : ∃ z, ((n3 : Int) == 0) = z := ⟨_, rfl⟩
      have hZ4 : ((n4 : Int) == 0) = Z3 := by rw [← hZ3, Bool.eq_iff_iff]; simp; omega
      have zz : (Z3 != Z3) = false := by cases Z3 <;> rfl
      have d21 : decide ((n2 : Int) < 1) = false := by simp; omega
      have d21n : ¬ (n2 < 1) := by omega
      have d21e : ¬ (n2 = 0) := by omega
      have d20 : (0 : Int) < (n2 : Int) := by omega
      have d34 : decide (n4 < n3) = false := by simp; omega
      subst hCMv
      clear hFB hFN hCM hn1 hh1 hn2 hh2 hn3 hh3 hn4 hh4 hV hVO hn2v hn1v h8 hFBv hFNv hdm hle34
      have iE := fun (F G : Nat → Int) (W : World) => eqB 9996 F G W
      have s1 : sameB FB FB = true := sameB_iff.2 fun _ _ => rfl
      go_wp2_with (first | ((with_reducible show wpList _ _ _ (Oper.mk _ (Op.load 27 _) _ _ _ _ :: _) _ _); refine loadB (K3) rfl rfl rfl ?_) | ((with_reducible show wpList _ _ _ (Oper.mk _ (Op.load 27 _) _ _ _ (some _) :: _) _ _); refine loadgB (K3) rfl rfl rfl ?_))
      generalize w1.alloc (.cells (mk 16 f) 27) = w1a at *
      refine (iFF.out _).mono ?_
      rintro e w2 ⟨rfl, hb⟩
      replace K3 := K3.below hb K3.lt
      replace HB : Hid (Below w.heap.size w w2) := HB.out.trans (hb.mono HB.out.size)
      clear hb
      replace K3 := K3.alloc (.cells (mk 16 FB) 27)
      have K4 := Blk.new w2 16 FB 27
      replace HB : Hid (Below w.heap.size w (w2.alloc (.cells (mk 16 FB) 27))) := HB.out.alloc HB.out.size _
      go_wp2_with (first | ((with_reducible show wpList _ _ _ (Oper.mk _ (Op.load 27 _) _ _ _ _ :: _) _ _); refine loadB (K3) rfl rfl rfl ?_) | ((with_reducible show wpList _ _ _ (Oper.mk _ (Op.load 27 _) _ _ _ (some _) :: _) _ _); refine loadgB (K3) rfl rfl rfl ?_))
      generalize w2.alloc (.cells (mk 16 FB) 27) = w2a at *
      refine (sFF.out _).mono ?_
      rintro e w3 ⟨rfl, hb⟩
      replace K3 := K3.below hb K3.lt
      replace K4 := K4.below hb K4.lt
      replace HB : Hid (Below w.heap.size w w3) := HB.out.trans (hb.mono HB.out.size)
      clear hb
      replace K3 := K3.alloc (.cells (mk 16 FB) 27)
      replace K4 := K4.alloc (.cells (mk 16 FB) 27)
      have K7 := Blk.new w3 16 FB 27
      replace HB : Hid (Below w.heap.size w (w3.alloc (.cells (mk 16 FB) 27))) := HB.out.alloc HB.out.size _
      go_wp2_with (first | ((with_reducible show wpList _ _ _ (Oper.mk _ (Op.load 27 _) _ _ _ _ :: _) _ _); refine loadB (K3) rfl rfl rfl ?_) | ((with_reducible show wpList _ _ _ (Oper.mk _ (Op.load 27 _) _ _ _ (some _) :: _) _ _); refine loadgB (K3) rfl rfl rfl ?_))
      generalize w3.alloc (.cells (mk 16 FB) 27) = w3a at *
      refine (iSY.out _).mono ?_
      rintro e w4 ⟨gs, cs, rfl, RS, hb⟩
      replace K3 := K3.below hb K3.lt
      replace K4 := K4.below hb K4.lt
      replace K7 := K7.below hb K7.lt
      replace HB : Hid (Below w.heap.size w w4) := HB.out.trans (hb.mono HB.out.size)
      replace RS := Lib.hid RS
      clear hb
      go_wp2_with (first | ((with_reducible show wpList _ _ _ (Oper.mk _ (Op.load 27 _) _ _ _ _ :: _) _ _); refine loadB (K3) rfl rfl rfl ?_) | ((with_reducible show wpList _ _ _ (Oper.mk _ (Op.load 27 _) _ _ _ (some _) :: _) _ _); refine loadgB (K3) rfl rfl rfl ?_))
      refine (sSY.out _).mono ?_
      rintro e w5 ⟨gs2, cs2, rfl, QS, hb⟩
      replace K3 := K3.below hb K3.lt
      replace K4 := K4.below hb K4.lt
      replace K7 := K7.below hb K7.lt
      replace RS := Lib.hid (RS.out.below hb)
      replace HB : Hid (Below w.heap.size w w5) := HB.out.trans (hb.mono HB.out.size)
      replace QS := Lib.hid QS
      clear hb
      go_wp2_with (first | ((with_reducible show wpList _ _ _ (Oper.mk _ (Op.load 27 _) _ _ _ _ :: _) _ _); refine loadB (K3) rfl rfl rfl ?_) | ((with_reducible show wpList _ _ _ (Oper.mk _ (Op.load 27 _) _ _ _ (some _) :: _) _ _); refine loadgB (K3) rfl rfl rfl ?_))
      refine (iCF.out _).mono ?_
      rintro e w6 ⟨rfl, hb⟩
      replace K3 := K3.below hb K3.lt
      replace K4 := K4.below hb K4.lt
      replace K7 := K7.below hb K7.lt
      replace RS := Lib.hid (RS.out.below hb)
      replace QS := Lib.hid (QS.out.below hb)
      replace HB : Hid (Below w.heap.size w w6) := HB.out.trans (hb.mono HB.out.size)
      clear hb
      go_wp2_with (first | ((with_reducible show wpList _ _ _ (Oper.mk _ (Op.load 27 _) _ _ _ _ :: _) _ _); refine loadB (K3) rfl rfl rfl ?_) | ((with_reducible show wpList _ _ _ (Oper.mk _ (Op.load 27 _) _ _ _ (some _) :: _) _ _); refine loadgB (K3) rfl rfl rfl ?_))
      refine (sCF.out _).mono ?_
      rintro e w7 ⟨rfl, hb⟩
      replace K3 := K3.below hb K3.lt
      replace K4 := K4.below hb K4.lt
      replace K7 := K7.below hb K7.lt
      replace RS := Lib.hid (RS.out.below hb)
      replace QS := Lib.hid (QS.out.below hb)
      replace HB : Hid (Below w.heap.size w w7) := HB.out.trans (hb.mono HB.out.size)
      clear hb
      go_wp2_with (first | ((with_reducible show wpList _ _ _ (Oper.mk _ (Op.load 27 _) _ _ _ _ :: _) _ _); refine loadB (K3) rfl rfl rfl ?_) | ((with_reducible show wpList _ _ _ (Oper.mk _ (Op.load 27 _) _ _ _ (some _) :: _) _ _); refine loadgB (K3) rfl rfl rfl ?_))
      refine (iFO.out _).mono ?_
      rintro e w8 ⟨gl, cl1, rfl, RL, hb⟩
      replace K3 := K3.below hb K3.lt
      replace K4 := K4.below hb K4.lt
      replace K7 := K7.below hb K7.lt
      replace RS := Lib.hid (RS.out.below hb)
      replace QS := Lib.hid (QS.out.below hb)
      replace HB : Hid (Below w.heap.size w w8) := HB.out.trans (hb.mono HB.out.size)
      replace RL := Lib.hid RL
      clear hb
      go_wp2_with (first | ((with_reducible show wpList _ _ _ (Oper.mk _ (Op.load 27 _) _ _ _ _ :: _) _ _); refine loadB (K3) rfl rfl rfl ?_) | ((with_reducible show wpList _ _ _ (Oper.mk _ (Op.load 27 _) _ _ _ (some _) :: _) _ _); refine loadgB (K3) rfl rfl rfl ?_))
      refine (sFO.out _).mono ?_
      rintro e w9 ⟨gl2, cl2, rfl, QL, hb⟩
      replace K3 := K3.below hb K3.lt
      replace K4 := K4.below hb K4.lt
      replace K7 := K7.below hb K7.lt
      replace RS := Lib.hid (RS.out.below hb)
      replace QS := Lib.hid (QS.out.below hb)
      replace RL := Lib.hid (RL.out.below hb)
      replace HB : Hid (Below w.heap.size w w9) := HB.out.trans (hb.mono HB.out.size)
      replace QL := Lib.hid QL
      clear hb
      go_wp2_with (first | ((with_reducible show wpList _ _ _ (Oper.mk _ (Op.load 27 _) _ _ _ _ :: _) _ _); refine loadB (K3) rfl rfl rfl ?_) | ((with_reducible show wpList _ _ _ (Oper.mk _ (Op.load 27 _) _ _ _ (some _) :: _) _ _); refine loadgB (K3) rfl rfl rfl ?_))
      refine (iDM.out _).mono ?_
      rintro e w10 ⟨gd, cd, rfl, RD, hb⟩
      replace K3 := K3.below hb K3.lt
      replace K4 := K4.below hb K4.lt
      replace K7 := K7.below hb K7.lt
      replace RS := Lib.hid (RS.out.below hb)
      replace QS := Lib.hid (QS.out.below hb)
      replace RL := Lib.hid (RL.out.below hb)
      replace QL := Lib.hid (QL.out.below hb)
      replace HB : Hid (Below w.heap.size w w10) := HB.out.trans (hb.mono HB.out.size)
      replace RD := Lib.hid RD
      clear hb
      go_wp2_with (first | ((with_reducible show wpList _ _ _ (Oper.mk _ (Op.load 27 _) _ _ _ _ :: _) _ _); refine loadB (K3) rfl rfl rfl ?_) | ((with_reducible show wpList _ _ _ (Oper.mk _ (Op.load 27 _) _ _ _ (some _) :: _) _ _); refine loadgB (K3) rfl rfl rfl ?_))
      refine (sDM.out _).mono ?_
      rintro e w11 ⟨gd2, cd2, rfl, QD, hb⟩
      replace K3 := K3.below hb K3.lt
      replace K4 := K4.below hb K4.lt
      replace K7 := K7.below hb K7.lt
      replace RS := Lib.hid (RS.out.below hb)
      replace QS := Lib.hid (QS.out.below hb)
      replace RL := Lib.hid (RL.out.below hb)
      replace QL := Lib.hid (QL.out.below hb)
      replace RD := Lib.hid (RD.out.below hb)
      replace HB : Hid (Below w.heap.size w w11) := HB.out.trans (hb.mono HB.out.size)
      replace QD := Lib.hid QD
      clear hb
      go_wp2_with fail
      refine (vCut1_any a0 len0 cap0 z0 _ hl (isRow_kept HR.out HB.out)).mono ?_
      rintro e w12 ⟨g1, m1, c1, rfl, hm1, hcr, hb⟩
      replace K3 := K3.below hb K3.lt
      replace K4 := K4.below hb K4.lt
      replace K7 := K7.below hb K7.lt
      replace RS := Lib.hid (RS.out.below hb)
      replace QS := Lib.hid (QS.out.below hb)
      replace RL := Lib.hid (RL.out.below hb)
      replace QL := Lib.hid (QL.out.below hb)
      replace RD := Lib.hid (RD.out.below hb)
      replace QD := Lib.hid (QD.out.below hb)
      replace HB : Hid (Below w.heap.size w w12) := HB.out.trans (hb.mono HB.out.size)
      have HCR := Lib.hid hcr
      clear hcr
      clear hb
      go_wp2_with fail
      refine (drawAreSameForm_any (some ⟨g1, 0, none⟩) m1 c1 _ hm1 HCR.out).mono ?_
      rintro e w13 ⟨u, v, rfl, hb⟩
      replace K3 := K3.below hb K3.lt
      replace K4 := K4.below hb K4.lt
      replace K7 := K7.below hb K7.lt
      replace RS := Lib.hid (RS.out.below hb)
      replace QS := Lib.hid (QS.out.below hb)
      replace RL := Lib.hid (RL.out.below hb)
      replace QL := Lib.hid (QL.out.below hb)
      replace RD := Lib.hid (RD.out.below hb)
      replace QD := Lib.hid (QD.out.below hb)
      replace HB : Hid (Below w.heap.size w w13) := HB.out.trans (hb.mono HB.out.size)
      clear hb
      have KU0 := (Blk.new w13 16 (fun _ => 0) 27).alloc (.cells (mk 16 fun _ => 0) 27)
      have KV0 := Blk.new (w13.alloc (.cells (mk 16 fun _ => 0) 27)) 16 (fun _ => 0) 27
      have hz1 : (w13.alloc (.cells (mk 16 fun _ => 0) 27)).heap.size = w13.heap.size + 1 := by simp
      rw [hz1] at KV0
      have hb : Below w13.heap.size w13 ((((w13.alloc (.cells (mk 16 fun _ => 0) 27)).alloc (.cells (mk 16 fun _ => 0) 27)).setRow w13.heap.size (mk 16 u)).setRow (w13.heap.size + 1) (mk 16 v)) := below_setRow (below_setRow (((Below.refl _ w13).alloc (Nat.le_refl _) _).alloc (by simp) _) (Nat.le_refl _) _) (by omega) _
      have KV1 := KV0.rowOther w13.heap.size (mk 16 u) (by omega)
      have KU2 := (KU0.row 16 u).rowOther (w13.heap.size + 1) (mk 16 v) (by omega)
      have KV2 := KV1.row 16 v
      clear hz1
      replace K3 := K3.below hb K3.lt
      replace K4 := K4.below hb K4.lt
      replace K7 := K7.below hb K7.lt
      replace RS := Lib.hid (RS.out.below hb)
      replace QS := Lib.hid (QS.out.below hb)
      replace RL := Lib.hid (RL.out.below hb)
      replace QL := Lib.hid (QL.out.below hb)
      replace RD := Lib.hid (RD.out.below hb)
      replace QD := Lib.hid (QD.out.below hb)
      replace HB : Hid (Below w.heap.size w ((((w13.alloc (.cells (mk 16 fun _ => 0) 27)).alloc (.cells (mk 16 fun _ => 0) 27)).setRow w13.heap.size (mk 16 u)).setRow (w13.heap.size + 1) (mk 16 v))) := HB.out.trans (hb.mono HB.out.size)
      clear hb
      clear HCR
      obtain ⟨AS, hAS⟩ : ∃ F, F = sfmR u v := ⟨_, rfl⟩
      obtain ⟨AO, hAO⟩ : ∃ F, F = lessO u v := ⟨_, rfl⟩
      have iAR : Hid (∀ W, Calls Try.prog 25 #[.agg (mk 16 u), .agg (mk 16 v)] W fun e w' => e = .returned (.tuple #[.bool AS, .bool AO]) ∧ Below W.heap.size W w') := by show ∀ W, _; rw [hAS, hAO]; exact implSame_any u v
      have sAR : Hid (∀ W, Calls Try.prog 26 #[.agg (mk 16 u), .agg (mk 16 v)] W fun e w' => e = .returned (.tuple #[.bool AS, .bool AO]) ∧ Below W.heap.size W w') := by show ∀ W, _; rw [hAS, hAO]; exact specSame_any u v
      have HAS := Lib.hid hAS
      have HAO := Lib.hid hAO
      clear hAS hAO
      go_wp2_with (first | ((with_reducible show wpList _ _ _ (Oper.mk _ (Op.load 27 _) _ _ _ _ :: _) _ _); refine loadB (KU2) rfl rfl rfl ?_) | ((with_reducible show wpList _ _ _ (Oper.mk _ (Op.load 27 _) _ _ _ (some _) :: _) _ _); refine loadgB (KU2) rfl rfl rfl ?_) | ((with_reducible show wpList _ _ _ (Oper.mk _ (Op.load 27 _) _ _ _ _ :: _) _ _); refine loadB (KV2) rfl rfl rfl ?_) | ((with_reducible show wpList _ _ _ (Oper.mk _ (Op.load 27 _) _ _ _ (some _) :: _) _ _); refine loadgB (KV2) rfl rfl rfl ?_) | ((with_reducible show wpList _ _ _ (Oper.mk _ (Op.store 27 _ _) _ _ _ _ :: _) _ _); refine storeB (KU0) rfl rfl rfl rfl ?_) | ((with_reducible show wpList _ _ _ (Oper.mk _ (Op.store 27 _ _) _ _ _ _ :: _) _ _); refine storeB (KV1) rfl rfl rfl rfl ?_))
      generalize (((w13.alloc (.cells (mk 16 fun _ => 0) 27)).alloc (.cells (mk 16 fun _ => 0) 27)).setRow w13.heap.size (mk 16 u)).setRow (w13.heap.size + 1) (mk 16 v) = w13a at *
      clear KU0 KV0 KV1
      refine (iAR.out _).mono ?_
      rintro e w14 ⟨rfl, hb⟩
      replace K3 := K3.below hb K3.lt
      replace K4 := K4.below hb K4.lt
      replace K7 := K7.below hb K7.lt
      replace KU2 := KU2.below hb KU2.lt
      replace KV2 := KV2.below hb KV2.lt
      replace RS := Lib.hid (RS.out.below hb)
      replace QS := Lib.hid (QS.out.below hb)
      replace RL := Lib.hid (RL.out.below hb)
      replace QL := Lib.hid (QL.out.below hb)
      replace RD := Lib.hid (RD.out.below hb)
      replace QD := Lib.hid (QD.out.below hb)
      replace HB : Hid (Below w.heap.size w w14) := HB.out.trans (hb.mono HB.out.size)
      clear hb
      go_wp2_with (first | ((with_reducible show wpList _ _ _ (Oper.mk _ (Op.load 27 _) _ _ _ _ :: _) _ _); refine loadB (KU2) rfl rfl rfl ?_) | ((with_reducible show wpList _ _ _ (Oper.mk _ (Op.load 27 _) _ _ _ (some _) :: _) _ _); refine loadgB (KU2) rfl rfl rfl ?_) | ((with_reducible show wpList _ _ _ (Oper.mk _ (Op.load 27 _) _ _ _ _ :: _) _ _); refine loadB (KV2) rfl rfl rfl ?_) | ((with_reducible show wpList _ _ _ (Oper.mk _ (Op.load 27 _) _ _ _ (some _) :: _) _ _); refine loadgB (KV2) rfl rfl rfl ?_))
      refine (sAR.out _).mono ?_
      rintro e w15 ⟨rfl, hb⟩
      replace K3 := K3.below hb K3.lt
      replace K4 := K4.below hb K4.lt
      replace K7 := K7.below hb K7.lt
      replace KU2 := KU2.below hb KU2.lt
      replace KV2 := KV2.below hb KV2.lt
      replace RS := Lib.hid (RS.out.below hb)
      replace QS := Lib.hid (QS.out.below hb)
      replace RL := Lib.hid (RL.out.below hb)
      replace QL := Lib.hid (QL.out.below hb)
      replace RD := Lib.hid (RD.out.below hb)
      replace QD := Lib.hid (QD.out.below hb)
      replace HB : Hid (Below w.heap.size w w15) := HB.out.trans (hb.mono HB.out.size)
      clear hb
      go_upto_region 17 with (fail)
      simp only [List.append]
      go_wp2_with (first | ((with_reducible show wpList _ _ _ (Oper.mk _ (Op.load 27 _) _ _ _ _ :: _) _ _); refine loadB (K4) rfl rfl rfl ?_) | ((with_reducible show wpList _ _ _ (Oper.mk _ (Op.load 27 _) _ _ _ (some _) :: _) _ _); refine loadgB (K4) rfl rfl rfl ?_) | ((with_reducible show wpList _ _ _ (Oper.mk _ (Op.load 27 _) _ _ _ _ :: _) _ _); refine loadB (K7) rfl rfl rfl ?_) | ((with_reducible show wpList _ _ _ (Oper.mk _ (Op.load 27 _) _ _ _ (some _) :: _) _ _); refine loadgB (K7) rfl rfl rfl ?_))
      refine (vInts_b _ _ n1 h1 _ RS.out QS.out (by omega)).mono ?_
      rintro e w16 ⟨rfl, hb⟩
      replace K3 := K3.below hb K3.lt
      replace K4 := K4.below hb K4.lt
      replace K7 := K7.below hb K7.lt
      replace KU2 := KU2.below hb KU2.lt
      replace KV2 := KV2.below hb KV2.lt
      replace RS := Lib.hid (RS.out.below hb)
      replace QS := Lib.hid (QS.out.below hb)
      replace RL := Lib.hid (RL.out.below hb)
      replace QL := Lib.hid (QL.out.below hb)
      replace RD := Lib.hid (RD.out.below hb)
      replace QD := Lib.hid (QD.out.below hb)
      replace HB : Hid (Below w.heap.size w w16) := HB.out.trans (hb.mono HB.out.size)
      clear hb
      clear QS K7
      go_wp2_with fail
      refine (vBoards_yes _ _ n2 h2 _ RL.out QL.out (by omega)).mono ?_
      rintro e w17 ⟨rfl, hb⟩
      replace K3 := K3.below hb K3.lt
      replace K4 := K4.below hb K4.lt
      replace KU2 := KU2.below hb KU2.lt
      replace KV2 := KV2.below hb KV2.lt
      replace RS := Lib.hid (RS.out.below hb)
      replace RL := Lib.hid (RL.out.below hb)
      replace QL := Lib.hid (QL.out.below hb)
      replace RD := Lib.hid (RD.out.below hb)
      replace QD := Lib.hid (QD.out.below hb)
      replace HB : Hid (Below w.heap.size w w17) := HB.out.trans (hb.mono HB.out.size)
      clear hb
      clear QL
      go_wp2_with fail
      refine (vInts_b _ _ n3 h3 _ RD.out QD.out (by omega)).mono ?_
      rintro e w18 ⟨rfl, hb⟩
      replace K3 := K3.below hb K3.lt
      replace K4 := K4.below hb K4.lt
      replace KU2 := KU2.below hb KU2.lt
      replace KV2 := KV2.below hb KV2.lt
      replace RS := Lib.hid (RS.out.below hb)
      replace RL := Lib.hid (RL.out.below hb)
      replace RD := Lib.hid (RD.out.below hb)
      replace QD := Lib.hid (QD.out.below hb)
      replace HB : Hid (Below w.heap.size w w18) := HB.out.trans (hb.mono HB.out.size)
      clear hb
      clear QD
      cases hO : AO with
      | true =>
        as_aux_lemma =>
          have hUV := of_decide_eq_true (HAO.out.symm.trans hO)
          have hASv : AS = sameB (fstF u) (fstF v) := by rw [HAS.out]; exact (sfm_yes hUV.1 hUV.2).1
          obtain ⟨FU, hFU⟩ : ∃ F, F = fstF u := ⟨_, rfl⟩
          obtain ⟨FV, hFV⟩ : ∃ F, F = fstF v := ⟨_, rfl⟩
          obtain ⟨NU, hNU⟩ : ∃ F, F = fstRN u := ⟨_, rfl⟩
          obtain ⟨NV, hNV⟩ : ∃ F, F = fstRN v := ⟨_, rfl⟩
          have iU : Hid (∀ W, Calls Try.prog 13 #[.agg (mk 16 u)] W fun e w' => e = .returned (.tuple #[.agg (mk 16 FU), .int .i64 NU, .bool true]) ∧ Below W.heap.size W w') := by show ∀ W, _; rw [hFU, hNU, ← (fstR_yes hUV.1).1, ← vdO_yes hUV.1]; exact implFirst_any u
          have iV : Hid (∀ W, Calls Try.prog 13 #[.agg (mk 16 v)] W fun e w' => e = .returned (.tuple #[.agg (mk 16 FV), .int .i64 NV, .bool true]) ∧ Below W.heap.size W w') := by show ∀ W, _; rw [hFV, hNV, ← (fstR_yes hUV.2).1, ← vdO_yes hUV.2]; exact implFirst_any v
          have sUV : sameB FU FV = AS := by rw [hFU, hFV, hASv]
          clear hUV hASv hFU hFV hNU hNV
          clear HAS
          subst hO
          clear HAO
          go_wp2_with (first | ((with_reducible show wpList _ _ _ (Oper.mk _ (Op.load 27 _) _ _ _ _ :: _) _ _); refine loadB (KU2) rfl rfl rfl ?_) | ((with_reducible show wpList _ _ _ (Oper.mk _ (Op.load 27 _) _ _ _ (some _) :: _) _ _); refine loadgB (KU2) rfl rfl rfl ?_))
          refine (iU.out _).mono ?_
          rintro e w19 ⟨rfl, hb⟩
          replace K3 := K3.below hb K3.lt
          replace K4 := K4.below hb K4.lt
          replace KU2 := KU2.below hb KU2.lt
          replace KV2 := KV2.below hb KV2.lt
          replace RS := Lib.hid (RS.out.below hb)
          replace RL := Lib.hid (RL.out.below hb)
          replace RD := Lib.hid (RD.out.below hb)
          replace HB : Hid (Below w.heap.size w w19) := HB.out.trans (hb.mono HB.out.size)
          clear hb
          replace K3 := K3.alloc (.cells (mk 16 FU) 27)
          replace K4 := K4.alloc (.cells (mk 16 FU) 27)
          replace KU2 := KU2.alloc (.cells (mk 16 FU) 27)
          replace KV2 := KV2.alloc (.cells (mk 16 FU) 27)
          replace RS := Lib.hid (RS.out.below ((Below.refl _ _).alloc (Nat.le_refl _) (.cells (mk 16 FU) 27)))
          replace RL := Lib.hid (RL.out.below ((Below.refl _ _).alloc (Nat.le_refl _) (.cells (mk 16 FU) 27)))
          replace RD := Lib.hid (RD.out.below ((Below.refl _ _).alloc (Nat.le_refl _) (.cells (mk 16 FU) 27)))
          have K32 := Blk.new w19 16 FU 27
          replace HB : Hid (Below w.heap.size w (w19.alloc (.cells (mk 16 FU) 27))) := HB.out.alloc HB.out.size _
          go_wp2_with (first | ((with_reducible show wpList _ _ _ (Oper.mk _ (Op.load 27 _) _ _ _ _ :: _) _ _); refine loadB (KV2) rfl rfl rfl ?_) | ((with_reducible show wpList _ _ _ (Oper.mk _ (Op.load 27 _) _ _ _ (some _) :: _) _ _); refine loadgB (KV2) rfl rfl rfl ?_))
          generalize w19.alloc (.cells (mk 16 FU) 27) = w19a at *
          refine (iV.out _).mono ?_
          rintro e w20 ⟨rfl, hb⟩
          replace K3 := K3.below hb K3.lt
          replace K4 := K4.below hb K4.lt
          replace KU2 := KU2.below hb KU2.lt
          replace KV2 := KV2.below hb KV2.lt
          replace K32 := K32.below hb K32.lt
          replace RS := Lib.hid (RS.out.below hb)
          replace RL := Lib.hid (RL.out.below hb)
          replace RD := Lib.hid (RD.out.below hb)
          replace HB : Hid (Below w.heap.size w w20) := HB.out.trans (hb.mono HB.out.size)
          clear hb
          replace K3 := K3.alloc (.cells (mk 16 FV) 27)
          replace K4 := K4.alloc (.cells (mk 16 FV) 27)
          replace KU2 := KU2.alloc (.cells (mk 16 FV) 27)
          replace KV2 := KV2.alloc (.cells (mk 16 FV) 27)
          replace K32 := K32.alloc (.cells (mk 16 FV) 27)
          replace RS := Lib.hid (RS.out.below ((Below.refl _ _).alloc (Nat.le_refl _) (.cells (mk 16 FV) 27)))
          replace RL := Lib.hid (RL.out.below ((Below.refl _ _).alloc (Nat.le_refl _) (.cells (mk 16 FV) 27)))
          replace RD := Lib.hid (RD.out.below ((Below.refl _ _).alloc (Nat.le_refl _) (.cells (mk 16 FV) 27)))
          have K35 := Blk.new w20 16 FV 27
          replace HB : Hid (Below w.heap.size w (w20.alloc (.cells (mk 16 FV) 27))) := HB.out.alloc HB.out.size _
          go_wp2_with (first | ((with_reducible show wpList _ _ _ (Oper.mk _ (Op.load 27 _) _ _ _ _ :: _) _ _); refine loadB (K32) rfl rfl rfl ?_) | ((with_reducible show wpList _ _ _ (Oper.mk _ (Op.load 27 _) _ _ _ (some _) :: _) _ _); refine loadgB (K32) rfl rfl rfl ?_) | ((with_reducible show wpList _ _ _ (Oper.mk _ (Op.load 27 _) _ _ _ _ :: _) _ _); refine loadB (K35) rfl rfl rfl ?_) | ((with_reducible show wpList _ _ _ (Oper.mk _ (Op.load 27 _) _ _ _ (some _) :: _) _ _); refine loadgB (K35) rfl rfl rfl ?_) | ((with_reducible show wpList _ _ _ (Oper.mk _ (Op.load 27 _) _ _ _ _ :: _) _ _); refine loadB (K3) rfl rfl rfl ?_) | ((with_reducible show wpList _ _ _ (Oper.mk _ (Op.load 27 _) _ _ _ (some _) :: _) _ _); refine loadgB (K3) rfl rfl rfl ?_))
          generalize w20.alloc (.cells (mk 16 FV) 27) = w20a at *
          refine (iMV.out _).mono ?_
          rintro e w21 ⟨gm, cm, rfl, RM, hb⟩
          replace K3 := K3.below hb K3.lt
          replace K4 := K4.below hb K4.lt
          replace K32 := K32.below hb K32.lt
          replace K35 := K35.below hb K35.lt
          replace RS := Lib.hid (RS.out.below hb)
          replace RL := Lib.hid (RL.out.below hb)
          replace RD := Lib.hid (RD.out.below hb)
          replace HB : Hid (Below w.heap.size w w21) := HB.out.trans (hb.mono HB.out.size)
          clear hb
          clear RM K32 K35
          obtain ⟨_, _, eL, _, CL⟩ := RL.out
          cases eL
          clear RL
          go_wp2_with fail
          generalize hb4 : w2.heap.size = b4 at *
          replace CL := CL.drew
          replace K3 := K3.drew
          replace K4 := K4.drew
          replace RS : Hid (IRow w21.drew (.slice (some ⟨gs, 0, none⟩) n1 cs) n1 h1) := RS.out
          replace HB : Hid (Below w.heap.size w w21.drew) := HB.out.drew
          refine wp_region_held_drew (S := fun W => CAt W gl (n2 * 16) h2 ∧ Blk W b4 16 FB 27) (by kernel_rfl) (⟨CL, K4⟩) (fun hHeld => ?_)
          generalize w21.drew = x0 at *
          refine wpAnyH_take (i := 0) (oi := { dst := some 241, op := _, type := _, pos := _, after := _, guard := _ }) (v := .bool true) rfl (by kernel_rfl) (by kernel_rfl) (by kernel_rfl) (fun _ _ _ h => h) (Or.inl ⟨by rfl, by intro w hSw; clear hSw; go_simp; (try with_reducible rfl)⟩) (by assumption) ?_
          try simp only [Act.put, List.setIfInBounds_toArray, List.set_cons_zero, List.set_cons_succ]
          refine wpAnyH_take (i := 1) (oi := { dst := some 242, op := _, type := _, pos := _, after := _, guard := _ }) (v := .bool false) rfl (by kernel_rfl) (by kernel_rfl) (by kernel_rfl) (fun _ _ _ h => h) (Or.inl ⟨by rfl, by intro w hSw; clear hSw; go_simp; (try with_reducible rfl)⟩) (by assumption) ?_
          try simp only [Act.put, List.setIfInBounds_toArray, List.set_cons_zero, List.set_cons_succ]
          refine wpAnyH_take (i := 2) (oi := { dst := some 243, op := _, type := _, pos := _, after := _, guard := _ }) (v := .bool false) rfl (by kernel_rfl) (by kernel_rfl) (by kernel_rfl) (fun _ _ _ h => h) (Or.inl ⟨by rfl, by intro w hSw; clear hSw; go_simp; (try with_reducible rfl)⟩) (by assumption) ?_
          try simp only [Act.put, List.setIfInBounds_toArray, List.set_cons_zero, List.set_cons_succ]
          refine wpAnyH_take (i := 3) (oi := { dst := some 244, op := _, type := _, pos := _, after := _, guard := _ }) (v := .int .i64 (n2 : Int)) rfl (by kernel_rfl) (by kernel_rfl) (by kernel_rfl) (fun _ _ _ h => h) (Or.inl ⟨by rfl, by intro w hSw; clear hSw; go_simp; (try with_reducible rfl)⟩) (by assumption) ?_
          try simp only [Act.put, List.setIfInBounds_toArray, List.set_cons_zero, List.set_cons_succ]
          refine wpAnyH_take (i := 4) (oi := { dst := some 245, op := _, type := _, pos := _, after := _, guard := _ }) (v := .slice (some ⟨gs, 0, none⟩) n1 cs) rfl (by kernel_rfl) (by kernel_rfl) (by kernel_rfl) (fun _ _ _ h => h) (Or.inl ⟨by rfl, by intro w hSw; clear hSw; go_simp; (try with_reducible rfl)⟩) (by assumption) ?_
          try simp only [Act.put, List.setIfInBounds_toArray, List.set_cons_zero, List.set_cons_succ]
          refine wpAnyH_take (i := 5) (oi := { dst := some 246, op := _, type := _, pos := _, after := _, guard := _ }) (v := .int .i64 (n1 : Int)) rfl (by kernel_rfl) (by kernel_rfl) (by kernel_rfl) (fun _ _ _ h => h) (Or.inl ⟨by rfl, by intro w hSw; clear hSw; go_simp; (try with_reducible rfl)⟩) (by assumption) ?_
          try simp only [Act.put, List.setIfInBounds_toArray, List.set_cons_zero, List.set_cons_succ]
          refine wpAnyH_take (i := 6) (oi := { dst := some 247, op := _, type := _, pos := _, after := _, guard := _ }) (v := .int .i64 8) rfl (by kernel_rfl) (by kernel_rfl) (by kernel_rfl) (fun _ _ _ h => h) (Or.inl ⟨by rfl, by intro w hSw; clear hSw; go_simp; (try with_reducible rfl)⟩) (by assumption) ?_
          try simp only [Act.put, List.setIfInBounds_toArray, List.set_cons_zero, List.set_cons_succ]
          refine wpAnyH_take (i := 7) (oi := { dst := some 248, op := _, type := _, pos := _, after := _, guard := _ }) (v := .bool false) rfl (by kernel_rfl) (by kernel_rfl) (by kernel_rfl) (fun _ _ _ h => h) (Or.inl ⟨by rfl, by intro w hSw; clear hSw; go_simp; (try with_reducible rfl)⟩) (by assumption) ?_
          try simp only [Act.put, List.setIfInBounds_toArray, List.set_cons_zero, List.set_cons_succ]
          refine wpAnyH_take (i := 8) (oi := { dst := some 249, op := _, type := _, pos := _, after := _, guard := _ }) (v := .bool false) rfl (by kernel_rfl) (by kernel_rfl) (by kernel_rfl) (fun _ _ _ h => h) (Or.inl ⟨by rfl, by intro w hSw; clear hSw; go_simp; (try with_reducible rfl)⟩) (by assumption) ?_
          try simp only [Act.put, List.setIfInBounds_toArray, List.set_cons_zero, List.set_cons_succ]
          refine wpAnyH_take (i := 9) (oi := { dst := some 250, op := _, type := _, pos := _, after := _, guard := _ }) (v := .bool false) rfl (by kernel_rfl) (by kernel_rfl) (by kernel_rfl) (fun _ _ _ h => h) (Or.inl ⟨by rfl, by intro w hSw; clear hSw; go_simp; (try with_reducible rfl)⟩) (by assumption) ?_
          try simp only [Act.put, List.setIfInBounds_toArray, List.set_cons_zero, List.set_cons_succ]
          refine wpAnyH_take (i := 10) (oi := { dst := some 251, op := _, type := _, pos := _, after := _, guard := _ }) (v := .slice (some ⟨gl, 0, none⟩) n2 cl1) rfl (by kernel_rfl) (by kernel_rfl) (by kernel_rfl) (fun _ _ _ h => h) (Or.inl ⟨by rfl, by intro w hSw; clear hSw; go_simp; (try with_reducible rfl)⟩) (by assumption) ?_
          try simp only [Act.put, List.setIfInBounds_toArray, List.set_cons_zero, List.set_cons_succ]
          refine wpAnyH_take (i := 11) (oi := { dst := some 252, op := _, type := _, pos := _, after := _, guard := _ }) (v := .int .i64 (n2 : Int)) rfl (by kernel_rfl) (by kernel_rfl) (by kernel_rfl) (fun _ _ _ h => h) (Or.inl ⟨by rfl, by intro w hSw; clear hSw; go_simp; (try with_reducible rfl)⟩) (by assumption) ?_
          try simp only [Act.put, List.setIfInBounds_toArray, List.set_cons_zero, List.set_cons_succ]
          refine wpAnyH_take (i := 12) (oi := { dst := some 253, op := _, type := _, pos := _, after := _, guard := _ }) (v := .int .i64 (n2 : Int)) rfl (by kernel_rfl) (by kernel_rfl) (by kernel_rfl) (fun _ _ _ h => h) (Or.inl ⟨by rfl, by intro w hSw; clear hSw; go_simp; (try with_reducible rfl)⟩) (by assumption) ?_
          try simp only [Act.put, List.setIfInBounds_toArray, List.set_cons_zero, List.set_cons_succ]
          refine wpAnyH_take (i := 13) (oi := { dst := some 254, op := _, type := _, pos := _, after := _, guard := _ }) (v := .bool false) rfl (by kernel_rfl) (by kernel_rfl) (by kernel_rfl) (fun _ _ _ h => h) (Or.inl ⟨by rfl, by intro w hSw; clear hSw; go_simp; (try with_reducible rfl)⟩) (by assumption) ?_
          try simp only [Act.put, List.setIfInBounds_toArray, List.set_cons_zero, List.set_cons_succ]
          refine wpAnyH_take (i := 14) (oi := { dst := some 255, op := _, type := _, pos := _, after := _, guard := _ }) (v := .bool false) rfl (by kernel_rfl) (by kernel_rfl) (by kernel_rfl) (fun _ _ _ h => h) (Or.inl ⟨by rfl, by intro w hSw; clear hSw; go_simp; (try with_reducible rfl)⟩) (by assumption) ?_
          try simp only [Act.put, List.setIfInBounds_toArray, List.set_cons_zero, List.set_cons_succ]
          refine wpAnyH_take (i := 15) (oi := { dst := some 256, op := _, type := _, pos := _, after := _, guard := _ }) (v := .bool false) rfl (by kernel_rfl) (by kernel_rfl) (by kernel_rfl) (fun _ _ _ h => h) (Or.inl ⟨by rfl, by intro w hSw; clear hSw; go_simp; (try with_reducible rfl)⟩) (by assumption) ?_
          try simp only [Act.put, List.setIfInBounds_toArray, List.set_cons_zero, List.set_cons_succ]
          refine wpAnyH_take (i := 16) (oi := { dst := some 257, op := _, type := _, pos := _, after := _, guard := _ }) (v := .slice (some ⟨gl, 0, none⟩) n2 cl1) rfl (by kernel_rfl) (by kernel_rfl) (by kernel_rfl) (fun _ _ _ h => h) (Or.inl ⟨by rfl, by intro w hSw; clear hSw; go_simp; (try with_reducible rfl)⟩) (by assumption) ?_
          try simp only [Act.put, List.setIfInBounds_toArray, List.set_cons_zero, List.set_cons_succ]
          refine wpAnyH_take (i := 17) (oi := { dst := some 258, op := _, type := _, pos := _, after := _, guard := _ }) (v := .int .i64 (n2 : Int)) rfl (by kernel_rfl) (by kernel_rfl) (by kernel_rfl) (fun _ _ _ h => h) (Or.inl ⟨by rfl, by intro w hSw; clear hSw; go_simp; (try with_reducible rfl)⟩) (by assumption) ?_
          try simp only [Act.put, List.setIfInBounds_toArray, List.set_cons_zero, List.set_cons_succ]
          refine wpAnyH_take (i := 18) (oi := { dst := some 259, op := _, type := _, pos := _, after := _, guard := _ }) (v := .bool false) rfl (by kernel_rfl) (by kernel_rfl) (by kernel_rfl) (fun _ _ _ h => h) (Or.inl ⟨by rfl, by intro w hSw; clear hSw; go_simp; (try with_reducible rfl)⟩) (by assumption) ?_
          try simp only [Act.put, List.setIfInBounds_toArray, List.set_cons_zero, List.set_cons_succ]
          refine wpAnyH_take (i := 19) (oi := { dst := some 260, op := _, type := _, pos := _, after := _, guard := _ }) (v := .bool false) rfl (by kernel_rfl) (by kernel_rfl) (by kernel_rfl) (fun _ _ _ h => h) (Or.inl ⟨by rfl, by intro w hSw; clear hSw; go_simp; (try with_reducible rfl)⟩) (by assumption) ?_
          try simp only [Act.put, List.setIfInBounds_toArray, List.set_cons_zero, List.set_cons_succ]
          refine wpAnyH_take (i := 20) (oi := { dst := some 261, op := _, type := _, pos := _, after := _, guard := _ }) (v := .bool false) rfl (by kernel_rfl) (by kernel_rfl) (by kernel_rfl) (fun _ _ _ h => h) (Or.inl ⟨by rfl, by intro w hSw; clear hSw; go_simp; (try with_reducible rfl)⟩) (by assumption) ?_
          try simp only [Act.put, List.setIfInBounds_toArray, List.set_cons_zero, List.set_cons_succ]
          refine wpAnyH_take (i := 21) (oi := { dst := some 262, op := _, type := _, pos := _, after := _, guard := _ }) (v := .slice (some ⟨gl, 0, none⟩) n2 cl1) rfl (by kernel_rfl) (by kernel_rfl) (by kernel_rfl) (fun _ _ _ h => h) (Or.inl ⟨by rfl, by intro w hSw; clear hSw; go_simp; (try with_reducible rfl)⟩) (by assumption) ?_
          try simp only [Act.put, List.setIfInBounds_toArray, List.set_cons_zero, List.set_cons_succ]
          refine wpAnyH_take (i := 22) (oi := { dst := some 263, op := _, type := _, pos := _, after := _, guard := _ }) (v := .pointer (some ⟨gl, 0, none⟩)) rfl (by kernel_rfl) (by kernel_rfl) (by kernel_rfl) (fun _ _ _ h => h) (Or.inl ⟨by rfl, by intro w hSw; clear hSw; go_simp; (try with_reducible rfl)⟩) (by assumption) ?_
          try simp only [Act.put, List.setIfInBounds_toArray, List.set_cons_zero, List.set_cons_succ]
          refine wpAnyH_take (i := 23) (oi := { dst := some 264, op := _, type := _, pos := _, after := _, guard := _ }) (v := .agg (mk 16 fun i => h2 (0 + i))) rfl (by kernel_rfl) (by kernel_rfl) (by kernel_rfl) (fun _ _ _ h => h) (Or.inl ⟨by rfl, fun _ q => execAB q.1 (by omega) rfl rfl⟩) (by assumption) ?_
          try simp only [Act.put, List.setIfInBounds_toArray, List.set_cons_zero, List.set_cons_succ]
          refine wpAnyH_take (i := 24) (oi := { dst := some 265, op := _, type := _, pos := _, after := _, guard := _ }) (v := .agg (mk 16 FB)) rfl (by kernel_rfl) (by kernel_rfl) (by kernel_rfl) (fun _ _ _ h => h) (Or.inl ⟨by rfl, fun _ q => execB q.2 rfl rfl⟩) (by assumption) ?_
          try simp only [Act.put, List.setIfInBounds_toArray, List.set_cons_zero, List.set_cons_succ]
          refine wpAnyH_take (i := 25) (oi := { dst := some 266, op := _, type := _, pos := _, after := _, guard := _ }) (v := .bool false) rfl (by kernel_rfl) (by kernel_rfl) (by kernel_rfl) (fun _ _ _ h => h) (Or.inl ⟨by rfl, fun W _ => (execNB (f := fun i => h2 (0 + i)) (g := FB) rfl rfl rfl).trans (by rw [sFL]; rfl)⟩) (by assumption) ?_
          try simp only [Act.put, List.setIfInBounds_toArray, List.set_cons_zero, List.set_cons_succ]
          refine wpAnyH_take (i := 26) (oi := { dst := some 267, op := _, type := _, pos := _, after := _, guard := _ }) (v := .bool false) rfl (by kernel_rfl) (by kernel_rfl) (by kernel_rfl) (fun _ _ _ h => h) (Or.inl ⟨by rfl, by intro w hSw; clear hSw; go_simp; (try with_reducible rfl)⟩) (by assumption) ?_
          try simp only [Act.put, List.setIfInBounds_toArray, List.set_cons_zero, List.set_cons_succ]
          refine wpAnyH_take (i := 27) (oi := { dst := some 268, op := _, type := _, pos := _, after := _, guard := _ }) (v := .bool false) rfl (by kernel_rfl) (by kernel_rfl) (by kernel_rfl) (fun _ _ _ h => h) (Or.inl ⟨by rfl, by intro w hSw; clear hSw; go_simp; (try with_reducible rfl)⟩) (by assumption) ?_
          try simp only [Act.put, List.setIfInBounds_toArray, List.set_cons_zero, List.set_cons_succ]
          refine wpAnyH_take (i := 28) (oi := { dst := some 269, op := _, type := _, pos := _, after := _, guard := _ }) (v := .slice (some ⟨gs, 0, none⟩) n1 cs) rfl (by kernel_rfl) (by kernel_rfl) (by kernel_rfl) (fun _ _ _ h => h) (Or.inl ⟨by rfl, by intro w hSw; clear hSw; go_simp; (try with_reducible rfl)⟩) (by assumption) ?_
          try simp only [Act.put, List.setIfInBounds_toArray, List.set_cons_zero, List.set_cons_succ]
          refine wpAnyH_ready (rs := [29]) (by kernel_rfl) (by simp) ?_
          refine AllReadyH.cons rfl (fun K hK => ?_) AllReadyH.nil
          go_simp
          refine (vHas_any _ n1 h1 0 _ RS.out (by omega)).mono ?_
          rintro e x1 ⟨rfl, rfl⟩
          go_wp2_with fail
          refine hK.out _ _ (by assumption) (fun hHeld => ?_)
          clear hK K
          try simp only [Act.put, List.setIfInBounds_toArray, List.set_cons_zero, List.set_cons_succ]
          refine wpAnyH_take (i := 30) (oi := { dst := some 271, op := _, type := _, pos := _, after := _, guard := _ }) (v := .bool false) rfl (by kernel_rfl) (by kernel_rfl) (by kernel_rfl) (fun _ _ _ h => h) (Or.inl ⟨by rfl, by intro w hSw; clear hSw; go_simp; (try with_reducible rfl)⟩) (by assumption) ?_
          try simp only [Act.put, List.setIfInBounds_toArray, List.set_cons_zero, List.set_cons_succ]
          refine wpAnyH_take (i := 31) (oi := { dst := some 272, op := _, type := _, pos := _, after := _, guard := _ }) (v := .bool false) rfl (by kernel_rfl) (by kernel_rfl) (by kernel_rfl) (fun _ _ _ h => h) (Or.inl ⟨by rfl, by intro w hSw; clear hSw; go_simp; (try with_reducible rfl)⟩) (by assumption) ?_
          try simp only [Act.put, List.setIfInBounds_toArray, List.set_cons_zero, List.set_cons_succ]
          refine wpAnyH_take (i := 32) (oi := { dst := some 273, op := _, type := _, pos := _, after := _, guard := _ }) (v := .bool false) rfl (by kernel_rfl) (by kernel_rfl) (by kernel_rfl) (fun _ _ _ h => h) (Or.inl ⟨by rfl, by intro w hSw; clear hSw; go_simp; (try with_reducible rfl)⟩) (by assumption) ?_
          try simp only [Act.put, List.setIfInBounds_toArray, List.set_cons_zero, List.set_cons_succ]
          refine wpAnyH_take (i := 33) (oi := { dst := some 274, op := _, type := _, pos := _, after := _, guard := _ }) (v := .slice (some ⟨gd, 0, none⟩) n3 cd) rfl (by kernel_rfl) (by kernel_rfl) (by kernel_rfl) (fun _ _ _ h => h) (Or.inl ⟨by rfl, by intro w hSw; clear hSw; go_simp; (try with_reducible rfl)⟩) (by assumption) ?_
          try simp only [Act.put, List.setIfInBounds_toArray, List.set_cons_zero, List.set_cons_succ]
          refine wpAnyH_take (i := 34) (oi := { dst := some 275, op := _, type := _, pos := _, after := _, guard := _ }) (v := .int .i64 (n3 : Int)) rfl (by kernel_rfl) (by kernel_rfl) (by kernel_rfl) (fun _ _ _ h => h) (Or.inl ⟨by rfl, by intro w hSw; clear hSw; go_simp; (try with_reducible rfl)⟩) (by assumption) ?_
          try simp only [Act.put, List.setIfInBounds_toArray, List.set_cons_zero, List.set_cons_succ]
          refine wpAnyH_take (i := 35) (oi := { dst := some 276, op := _, type := _, pos := _, after := _, guard := _ }) (v := .slice (some ⟨gm, 0, none⟩) n4 cm) rfl (by kernel_rfl) (by kernel_rfl) (by kernel_rfl) (fun _ _ _ h => h) (Or.inl ⟨by rfl, by intro w hSw; clear hSw; go_simp; (try with_reducible rfl)⟩) (by assumption) ?_
          try simp only [Act.put, List.setIfInBounds_toArray, List.set_cons_zero, List.set_cons_succ]
          refine wpAnyH_take (i := 36) (oi := { dst := some 277, op := _, type := _, pos := _, after := _, guard := _ }) (v := .int .i64 (n4 : Int)) rfl (by kernel_rfl) (by kernel_rfl) (by kernel_rfl) (fun _ _ _ h => h) (Or.inl ⟨by rfl, by intro w hSw; clear hSw; go_simp; (try with_reducible rfl)⟩) (by assumption) ?_
          try simp only [Act.put, List.setIfInBounds_toArray, List.set_cons_zero, List.set_cons_succ]
          refine wpAnyH_take (i := 37) (oi := { dst := some 278, op := _, type := _, pos := _, after := _, guard := _ }) (v := .bool false) rfl (by kernel_rfl) (by kernel_rfl) (by kernel_rfl) (fun _ _ _ h => h) (Or.inl ⟨by rfl, by intro w hSw; clear hSw; go_simp; (try with_reducible rfl)⟩) (by assumption) ?_
          try simp only [Act.put, List.setIfInBounds_toArray, List.set_cons_zero, List.set_cons_succ]
          refine wpAnyH_take (i := 38) (oi := { dst := some 279, op := _, type := _, pos := _, after := _, guard := _ }) (v := .bool false) rfl (by kernel_rfl) (by kernel_rfl) (by kernel_rfl) (fun _ _ _ h => h) (Or.inl ⟨by rfl, by intro w hSw; clear hSw; go_simp; (try with_reducible rfl)⟩) (by assumption) ?_
          try simp only [Act.put, List.setIfInBounds_toArray, List.set_cons_zero, List.set_cons_succ]
          refine wpAnyH_take (i := 39) (oi := { dst := some 280, op := _, type := _, pos := _, after := _, guard := _ }) (v := .bool false) rfl (by kernel_rfl) (by kernel_rfl) (by kernel_rfl) (fun _ _ _ h => h) (Or.inl ⟨by rfl, by intro w hSw; clear hSw; go_simp; (try with_reducible rfl)⟩) (by assumption) ?_
          try simp only [Act.put, List.setIfInBounds_toArray, List.set_cons_zero, List.set_cons_succ]
          refine wpAnyH_take (i := 40) (oi := { dst := some 281, op := _, type := _, pos := _, after := _, guard := _ }) (v := .slice (some ⟨gd, 0, none⟩) n3 cd) rfl (by kernel_rfl) (by kernel_rfl) (by kernel_rfl) (fun _ _ _ h => h) (Or.inl ⟨by rfl, by intro w hSw; clear hSw; go_simp; (try with_reducible rfl)⟩) (by assumption) ?_
          try simp only [Act.put, List.setIfInBounds_toArray, List.set_cons_zero, List.set_cons_succ]
          refine wpAnyH_take (i := 41) (oi := { dst := some 282, op := _, type := _, pos := _, after := _, guard := _ }) (v := .int .i64 (n3 : Int)) rfl (by kernel_rfl) (by kernel_rfl) (by kernel_rfl) (fun _ _ _ h => h) (Or.inl ⟨by rfl, by intro w hSw; clear hSw; go_simp; (try with_reducible rfl)⟩) (by assumption) ?_
          try simp only [Act.put, List.setIfInBounds_toArray, List.set_cons_zero, List.set_cons_succ]
          refine wpAnyH_take (i := 42) (oi := { dst := some 283, op := _, type := _, pos := _, after := _, guard := _ }) (v := .bool Z3) rfl (by kernel_rfl) (by kernel_rfl) (by kernel_rfl) (fun _ _ _ h => h) (Or.inl ⟨by rfl, by intro w hSw; clear hSw; go_simp; (try with_reducible rfl)⟩) (by assumption) ?_
          try simp only [Act.put, List.setIfInBounds_toArray, List.set_cons_zero, List.set_cons_succ]
          refine wpAnyH_take (i := 43) (oi := { dst := some 284, op := _, type := _, pos := _, after := _, guard := _ }) (v := .slice (some ⟨gm, 0, none⟩) n4 cm) rfl (by kernel_rfl) (by kernel_rfl) (by kernel_rfl) (fun _ _ _ h => h) (Or.inl ⟨by rfl, by intro w hSw; clear hSw; go_simp; (try with_reducible rfl)⟩) (by assumption) ?_
          try simp only [Act.put, List.setIfInBounds_toArray, List.set_cons_zero, List.set_cons_succ]
          refine wpAnyH_take (i := 44) (oi := { dst := some 285, op := _, type := _, pos := _, after := _, guard := _ }) (v := .int .i64 (n4 : Int)) rfl (by kernel_rfl) (by kernel_rfl) (by kernel_rfl) (fun _ _ _ h => h) (Or.inl ⟨by rfl, by intro w hSw; clear hSw; go_simp; (try with_reducible rfl)⟩) (by assumption) ?_
          try simp only [Act.put, List.setIfInBounds_toArray, List.set_cons_zero, List.set_cons_succ]
          refine wpAnyH_take (i := 45) (oi := { dst := some 286, op := _, type := _, pos := _, after := _, guard := _ }) (v := .bool Z3) rfl (by kernel_rfl) (by kernel_rfl) (by kernel_rfl) (fun _ _ _ h => h) (Or.inl ⟨by rfl, by intro w hSw; clear hSw; go_simp; (try with_reducible rfl)⟩) (by assumption) ?_
          try simp only [Act.put, List.setIfInBounds_toArray, List.set_cons_zero, List.set_cons_succ]
          refine wpAnyH_take (i := 46) (oi := { dst := some 287, op := _, type := _, pos := _, after := _, guard := _ }) (v := .bool false) rfl (by kernel_rfl) (by kernel_rfl) (by kernel_rfl) (fun _ _ _ h => h) (Or.inl ⟨by rfl, by intro w hSw; clear hSw; go_simp; (try with_reducible rfl)⟩) (by assumption) ?_
          try simp only [Act.put, List.setIfInBounds_toArray, List.set_cons_zero, List.set_cons_succ]
          refine wpAnyH_take (i := 47) (oi := { dst := some 288, op := _, type := _, pos := _, after := _, guard := _ }) (v := .bool false) rfl (by kernel_rfl) (by kernel_rfl) (by kernel_rfl) (fun _ _ _ h => h) (Or.inl ⟨by rfl, by intro w hSw; clear hSw; go_simp; (try with_reducible rfl)⟩) (by assumption) ?_
          try simp only [Act.put, List.setIfInBounds_toArray, List.set_cons_zero, List.set_cons_succ]
          refine wpAnyH_done (by kernel_rfl) ?_ _
          clear hHeld
          clear CL
          go_wp2_with fail
          generalize hb3 : w1.heap.size = b3 at *
          skip
          go_loopg [40] 8 (fun gk s40 wr => ∃ m : Nat, m + gk = 8 ∧ s40 = .int .i64 m ∧ Blk wr b3 16 f 27 ∧ Blk wr b4 16 FB 27 ∧ Hid (IRow wr (.slice (some ⟨gs, 0, none⟩) n1 cs) n1 h1) ∧ Hid (Below w.heap.size w wr))
          case atStart => exact ⟨0, by omega, rfl, K3, K4, RS, HB⟩
          case round =>
            clear K3 K4 RS HB
            obtain ⟨m, hmg, rfl, K3, K4, RS, HB⟩ := hrel
            cases gk with
            | zero =>
              have hk : ¬ ((m : Int) < 8) := by omega
              go_wp2_with fail
              go_ret
              exact ⟨rfl, HB.out⟩
            | succ gk2 =>
              have hk : (m : Int) < 8 := by omega
              have hk0 : (0 : Int) ≤ (m : Int) := by omega
              obtain ⟨G, FF, q, h5, iG, iFG, sG, iDG, eG, lG⟩ := HLP.out m (by omega)
              have IG := Lib.hid iG
              have IFG := Lib.hid iFG
              have IDG := Lib.hid iDG
              have LG := Lib.hid lG
              clear iG iFG iDG lG
              generalize hE : sameB G f = E at *
              have eE : (E != E) = false := by cases E <;> rfl
              have HE := Lib.hid hE
              clear hE
              go_wp2_with (first | ((with_reducible show wpList _ _ _ (Oper.mk _ (Op.load 27 _) _ _ _ _ :: _) _ _); refine loadB (K3) rfl rfl rfl ?_) | ((with_reducible show wpList _ _ _ (Oper.mk _ (Op.load 27 _) _ _ _ (some _) :: _) _ _); refine loadgB (K3) rfl rfl rfl ?_))
              refine (IG.out _).mono ?_
              rintro e w22 ⟨rfl, hb⟩
              replace K3 := K3.below hb K3.lt
              replace K4 := K4.below hb K4.lt
              replace RS := Lib.hid (RS.out.below hb)
              replace HB : Hid (Below w.heap.size w w22) := HB.out.trans (hb.mono HB.out.size)
              clear hb
              replace K3 := K3.alloc (.cells (mk 16 G) 27)
              replace K4 := K4.alloc (.cells (mk 16 G) 27)
              replace RS := Lib.hid (RS.out.below ((Below.refl _ _).alloc (Nat.le_refl _) (.cells (mk 16 G) 27)))
              have K41 := Blk.new w22 16 G 27
              replace HB : Hid (Below w.heap.size w (w22.alloc (.cells (mk 16 G) 27))) := HB.out.alloc HB.out.size _
              go_wp2_with (first | ((with_reducible show wpList _ _ _ (Oper.mk _ (Op.load 27 _) _ _ _ _ :: _) _ _); refine loadB (K41) rfl rfl rfl ?_) | ((with_reducible show wpList _ _ _ (Oper.mk _ (Op.load 27 _) _ _ _ (some _) :: _) _ _); refine loadgB (K41) rfl rfl rfl ?_))
              generalize w22.alloc (.cells (mk 16 G) 27) = w22a at *
              refine (IFG.out _).mono ?_
              rintro e w23 ⟨rfl, hb⟩
              replace K3 := K3.below hb K3.lt
              replace K4 := K4.below hb K4.lt
              replace K41 := K41.below hb K41.lt
              replace RS := Lib.hid (RS.out.below hb)
              replace HB : Hid (Below w.heap.size w w23) := HB.out.trans (hb.mono HB.out.size)
              clear hb
              replace K3 := K3.alloc (.cells (mk 16 FF) 27)
              replace K4 := K4.alloc (.cells (mk 16 FF) 27)
              replace K41 := K41.alloc (.cells (mk 16 FF) 27)
              replace RS := Lib.hid (RS.out.below ((Below.refl _ _).alloc (Nat.le_refl _) (.cells (mk 16 FF) 27)))
              have K43 := Blk.new w23 16 FF 27
              replace HB : Hid (Below w.heap.size w (w23.alloc (.cells (mk 16 FF) 27))) := HB.out.alloc HB.out.size _
              go_wp2_with (first | ((with_reducible show wpList _ _ _ (Oper.mk _ (Op.load 27 _) _ _ _ _ :: _) _ _); refine loadB (K41) rfl rfl rfl ?_) | ((with_reducible show wpList _ _ _ (Oper.mk _ (Op.load 27 _) _ _ _ (some _) :: _) _ _); refine loadgB (K41) rfl rfl rfl ?_))
              generalize w23.alloc (.cells (mk 16 FF) 27) = w23a at *
              refine (IDG.out _).mono ?_
              rintro e w24 ⟨g5, c5, rfl, R5, hb⟩
              replace K3 := K3.below hb K3.lt
              replace K4 := K4.below hb K4.lt
              replace K41 := K41.below hb K41.lt
              replace K43 := K43.below hb K43.lt
              replace RS := Lib.hid (RS.out.below hb)
              replace HB : Hid (Below w.heap.size w w24) := HB.out.trans (hb.mono HB.out.size)
              clear hb
              clear R5
              go_wp2_with fail
              generalize hb41 : w22.heap.size = b41 at *
              generalize hb43 : w23.heap.size = b43 at *
              cases hP : sameB G FB with
              | true =>
                have HP := Lib.hid hP
                have lt1 := LG.out hP
                clear hP
                replace K3 := K3.drew
                replace K4 := K4.drew
                replace K41 := K41.drew
                replace K43 := K43.drew
                replace RS : Hid (IRow w24.drew (.slice (some ⟨gs, 0, none⟩) n1 cs) n1 h1) := RS.out
                replace HB : Hid (Below w.heap.size w w24.drew) := HB.out.drew
                refine wp_region_held_drew (S := fun W => Blk W b43 16 FF 27 ∧ Blk W b4 16 FB 27 ∧ Blk W b41 16 G 27 ∧ Blk W b3 16 f 27) (by kernel_rfl) (⟨K43, K4, K41, K3⟩) (fun hHeld => ?_)
                generalize w24.drew = x0 at *
                refine wpAnyH_take (i := 0) (oi := { dst := some 310, op := _, type := _, pos := _, after := _, guard := _ }) (v := .bool true) rfl (by kernel_rfl) (by kernel_rfl) (by kernel_rfl) (fun _ _ _ h => h) (Or.inl ⟨by rfl, by intro w hSw; clear hSw; go_simp; (try with_reducible rfl)⟩) (by assumption) ?_
                try simp only [Act.put, List.setIfInBounds_toArray, List.set_cons_zero, List.set_cons_succ]
                refine wpAnyH_take (i := 1) (oi := { dst := some 311, op := _, type := _, pos := _, after := _, guard := _ }) (v := .bool false) rfl (by kernel_rfl) (by kernel_rfl) (by kernel_rfl) (fun _ _ _ h => h) (Or.inl ⟨by rfl, by intro w hSw; clear hSw; go_simp; (try with_reducible rfl)⟩) (by assumption) ?_
                try simp only [Act.put, List.setIfInBounds_toArray, List.set_cons_zero, List.set_cons_succ]
                refine wpAnyH_take (i := 2) (oi := { dst := some 312, op := _, type := _, pos := _, after := _, guard := _ }) (v := .bool false) rfl (by kernel_rfl) (by kernel_rfl) (by kernel_rfl) (fun _ _ _ h => h) (Or.inl ⟨by rfl, by intro w hSw; clear hSw; go_simp; (try with_reducible rfl)⟩) (by assumption) ?_
                try simp only [Act.put, List.setIfInBounds_toArray, List.set_cons_zero, List.set_cons_succ]
                refine wpAnyH_take (i := 3) (oi := { dst := some 313, op := _, type := _, pos := _, after := _, guard := _ }) (v := .bool true) rfl (by kernel_rfl) (by kernel_rfl) (by kernel_rfl) (fun _ _ _ h => h) (Or.inl ⟨by rfl, by intro w hSw; clear hSw; go_simp; (try with_reducible rfl)⟩) (by assumption) ?_
                try simp only [Act.put, List.setIfInBounds_toArray, List.set_cons_zero, List.set_cons_succ]
                refine wpAnyH_take (i := 4) (oi := { dst := some 314, op := _, type := _, pos := _, after := _, guard := _ }) (v := .bool false) rfl (by kernel_rfl) (by kernel_rfl) (by kernel_rfl) (fun _ _ _ h => h) (Or.inl ⟨by rfl, by intro w hSw; clear hSw; go_simp; (try with_reducible rfl)⟩) (by assumption) ?_
                try simp only [Act.put, List.setIfInBounds_toArray, List.set_cons_zero, List.set_cons_succ]
                refine wpAnyH_take (i := 5) (oi := { dst := some 315, op := _, type := _, pos := _, after := _, guard := _ }) (v := .bool false) rfl (by kernel_rfl) (by kernel_rfl) (by kernel_rfl) (fun _ _ _ h => h) (Or.inl ⟨by rfl, by intro w hSw; clear hSw; go_simp; (try with_reducible rfl)⟩) (by assumption) ?_
                try simp only [Act.put, List.setIfInBounds_toArray, List.set_cons_zero, List.set_cons_succ]
                refine wpAnyH_take (i := 6) (oi := { dst := some 316, op := _, type := _, pos := _, after := _, guard := _ }) (v := .bool false) rfl (by kernel_rfl) (by kernel_rfl) (by kernel_rfl) (fun _ _ _ h => h) (Or.inl ⟨by rfl, by intro w hSw; clear hSw; go_simp; (try with_reducible rfl)⟩) (by assumption) ?_
                try simp only [Act.put, List.setIfInBounds_toArray, List.set_cons_zero, List.set_cons_succ]
                refine wpAnyH_take (i := 7) (oi := { dst := some 317, op := _, type := _, pos := _, after := _, guard := _ }) (v := .bool true) rfl (by kernel_rfl) (by kernel_rfl) (by kernel_rfl) (fun _ _ _ h => h) (Or.inl ⟨by rfl, by intro w hSw; clear hSw; go_simp; (try with_reducible rfl)⟩) (by assumption) ?_
                try simp only [Act.put, List.setIfInBounds_toArray, List.set_cons_zero, List.set_cons_succ]
                refine wpAnyH_take (i := 8) (oi := { dst := some 318, op := _, type := _, pos := _, after := _, guard := _ }) (v := .bool false) rfl (by kernel_rfl) (by kernel_rfl) (by kernel_rfl) (fun _ _ _ h => h) (Or.inl ⟨by rfl, by intro w hSw; clear hSw; go_simp; (try with_reducible rfl)⟩) (by assumption) ?_
                try simp only [Act.put, List.setIfInBounds_toArray, List.set_cons_zero, List.set_cons_succ]
                refine wpAnyH_take (i := 9) (oi := { dst := some 319, op := _, type := _, pos := _, after := _, guard := _ }) (v := .bool false) rfl (by kernel_rfl) (by kernel_rfl) (by kernel_rfl) (fun _ _ _ h => h) (Or.inl ⟨by rfl, by intro w hSw; clear hSw; go_simp; (try with_reducible rfl)⟩) (by assumption) ?_
                try simp only [Act.put, List.setIfInBounds_toArray, List.set_cons_zero, List.set_cons_succ]
                refine wpAnyH_take (i := 10) (oi := { dst := some 320, op := _, type := _, pos := _, after := _, guard := _ }) (v := .bool false) rfl (by kernel_rfl) (by kernel_rfl) (by kernel_rfl) (fun _ _ _ h => h) (Or.inl ⟨by rfl, by intro w hSw; clear hSw; go_simp; (try with_reducible rfl)⟩) (by assumption) ?_
                try simp only [Act.put, List.setIfInBounds_toArray, List.set_cons_zero, List.set_cons_succ]
                refine wpAnyH_take (i := 11) (oi := { dst := some 321, op := _, type := _, pos := _, after := _, guard := _ }) (v := .agg (mk 16 FF)) rfl (by kernel_rfl) (by kernel_rfl) (by kernel_rfl) (fun _ _ _ h => h) (Or.inl ⟨by rfl, fun _ q => execB q.1 rfl rfl⟩) (by assumption) ?_
                try simp only [Act.put, List.setIfInBounds_toArray, List.set_cons_zero, List.set_cons_succ]
                refine wpAnyH_take (i := 12) (oi := { dst := some 322, op := _, type := _, pos := _, after := _, guard := _ }) (v := .agg (mk 16 FB)) rfl (by kernel_rfl) (by kernel_rfl) (by kernel_rfl) (fun _ _ _ h => h) (Or.inl ⟨by rfl, fun _ q => execB q.2.1 rfl rfl⟩) (by assumption) ?_
                try simp only [Act.put, List.setIfInBounds_toArray, List.set_cons_zero, List.set_cons_succ]
                refine wpAnyH_take (i := 13) (oi := { dst := some 323, op := _, type := _, pos := _, after := _, guard := _ }) (v := .bool false) rfl (by kernel_rfl) (by kernel_rfl) (by kernel_rfl) (fun _ _ _ h => h) (Or.inl ⟨by rfl, fun W _ => (execNB (f := FF) (g := FB) rfl rfl rfl).trans (by rw [sG]; rfl)⟩) (by assumption) ?_
                try simp only [Act.put, List.setIfInBounds_toArray, List.set_cons_zero, List.set_cons_succ]
                refine wpAnyH_take (i := 14) (oi := { dst := some 324, op := _, type := _, pos := _, after := _, guard := _ }) (v := .bool false) rfl (by kernel_rfl) (by kernel_rfl) (by kernel_rfl) (fun _ _ _ h => h) (Or.inl ⟨by rfl, by intro w hSw; clear hSw; go_simp; (try with_reducible rfl)⟩) (by assumption) ?_
                try simp only [Act.put, List.setIfInBounds_toArray, List.set_cons_zero, List.set_cons_succ]
                refine wpAnyH_take (i := 15) (oi := { dst := some 325, op := _, type := _, pos := _, after := _, guard := _ }) (v := .bool false) rfl (by kernel_rfl) (by kernel_rfl) (by kernel_rfl) (fun _ _ _ h => h) (Or.inl ⟨by rfl, by intro w hSw; clear hSw; go_simp; (try with_reducible rfl)⟩) (by assumption) ?_
                try simp only [Act.put, List.setIfInBounds_toArray, List.set_cons_zero, List.set_cons_succ]
                refine wpAnyH_take (i := 16) (oi := { dst := some 326, op := _, type := _, pos := _, after := _, guard := _ }) (v := .slice (some ⟨g5, 0, none⟩) n3 c5) rfl (by kernel_rfl) (by kernel_rfl) (by kernel_rfl) (fun _ _ _ h => h) (Or.inl ⟨by rfl, by intro w hSw; clear hSw; go_simp; (try with_reducible rfl)⟩) (by assumption) ?_
                try simp only [Act.put, List.setIfInBounds_toArray, List.set_cons_zero, List.set_cons_succ]
                refine wpAnyH_take (i := 17) (oi := { dst := some 327, op := _, type := _, pos := _, after := _, guard := _ }) (v := .int .i64 (n3 : Int)) rfl (by kernel_rfl) (by kernel_rfl) (by kernel_rfl) (fun _ _ _ h => h) (Or.inl ⟨by rfl, by intro w hSw; clear hSw; go_simp; (try with_reducible rfl)⟩) (by assumption) ?_
                try simp only [Act.put, List.setIfInBounds_toArray, List.set_cons_zero, List.set_cons_succ]
                refine wpAnyH_take (i := 18) (oi := { dst := some 328, op := _, type := _, pos := _, after := _, guard := _ }) (v := .slice (some ⟨gd, 0, none⟩) n3 cd) rfl (by kernel_rfl) (by kernel_rfl) (by kernel_rfl) (fun _ _ _ h => h) (Or.inl ⟨by rfl, by intro w hSw; clear hSw; go_simp; (try with_reducible rfl)⟩) (by assumption) ?_
                try simp only [Act.put, List.setIfInBounds_toArray, List.set_cons_zero, List.set_cons_succ]
                refine wpAnyH_take (i := 19) (oi := { dst := some 329, op := _, type := _, pos := _, after := _, guard := _ }) (v := .int .i64 (n3 : Int)) rfl (by kernel_rfl) (by kernel_rfl) (by kernel_rfl) (fun _ _ _ h => h) (Or.inl ⟨by rfl, by intro w hSw; clear hSw; go_simp; (try with_reducible rfl)⟩) (by assumption) ?_
                try simp only [Act.put, List.setIfInBounds_toArray, List.set_cons_zero, List.set_cons_succ]
                refine wpAnyH_take (i := 20) (oi := { dst := some 330, op := _, type := _, pos := _, after := _, guard := _ }) (v := .bool false) rfl (by kernel_rfl) (by kernel_rfl) (by kernel_rfl) (fun _ _ _ h => h) (Or.inl ⟨by rfl, by intro w hSw; clear hSw; go_simp; (try with_reducible rfl)⟩) (by assumption) ?_
                try simp only [Act.put, List.setIfInBounds_toArray, List.set_cons_zero, List.set_cons_succ]
                refine wpAnyH_take (i := 21) (oi := { dst := some 331, op := _, type := _, pos := _, after := _, guard := _ }) (v := .bool false) rfl (by kernel_rfl) (by kernel_rfl) (by kernel_rfl) (fun _ _ _ h => h) (Or.inl ⟨by rfl, by intro w hSw; clear hSw; go_simp; (try with_reducible rfl)⟩) (by assumption) ?_
                try simp only [Act.put, List.setIfInBounds_toArray, List.set_cons_zero, List.set_cons_succ]
                refine wpAnyH_take (i := 22) (oi := { dst := some 332, op := _, type := _, pos := _, after := _, guard := _ }) (v := .bool false) rfl (by kernel_rfl) (by kernel_rfl) (by kernel_rfl) (fun _ _ _ h => h) (Or.inl ⟨by rfl, by intro w hSw; clear hSw; go_simp; (try with_reducible rfl)⟩) (by assumption) ?_
                try simp only [Act.put, List.setIfInBounds_toArray, List.set_cons_zero, List.set_cons_succ]
                refine wpAnyH_take (i := 23) (oi := { dst := some 333, op := _, type := _, pos := _, after := _, guard := _ }) (v := .agg (mk 16 G)) rfl (by kernel_rfl) (by kernel_rfl) (by kernel_rfl) (fun _ _ _ h => h) (Or.inl ⟨by rfl, fun _ q => execB q.2.2.1 rfl rfl⟩) (by assumption) ?_
                try simp only [Act.put, List.setIfInBounds_toArray, List.set_cons_zero, List.set_cons_succ]
                refine wpAnyH_take (i := 24) (oi := { dst := some 334, op := _, type := _, pos := _, after := _, guard := _ }) (v := .agg (mk 16 f)) rfl (by kernel_rfl) (by kernel_rfl) (by kernel_rfl) (fun _ _ _ h => h) (Or.inl ⟨by rfl, fun _ q => execB q.2.2.2 rfl rfl⟩) (by assumption) ?_
                try simp only [Act.put, List.setIfInBounds_toArray, List.set_cons_zero, List.set_cons_succ]
                refine wpAnyH_take (i := 25) (oi := { dst := some 335, op := _, type := _, pos := _, after := _, guard := _ }) (v := .bool E) rfl (by kernel_rfl) (by kernel_rfl) (by kernel_rfl) (fun _ _ _ h => h) (Or.inl ⟨by rfl, fun W _ => (execEB (f := G) (g := f) rfl rfl rfl).trans (by rw [HE.out])⟩) (by assumption) ?_
                try simp only [Act.put, List.setIfInBounds_toArray, List.set_cons_zero, List.set_cons_succ]
                refine wpAnyH_take (i := 26) (oi := { dst := some 336, op := _, type := _, pos := _, after := _, guard := _ }) (v := .slice (some ⟨gs, 0, none⟩) n1 cs) rfl (by kernel_rfl) (by kernel_rfl) (by kernel_rfl) (fun _ _ _ h => h) (Or.inl ⟨by rfl, by intro w hSw; clear hSw; go_simp; (try with_reducible rfl)⟩) (by assumption) ?_
                try simp only [Act.put, List.setIfInBounds_toArray, List.set_cons_zero, List.set_cons_succ]
                refine wpAnyH_take (i := 27) (oi := { dst := some 337, op := _, type := _, pos := _, after := _, guard := _ }) (v := .int .i64 (m : Int)) rfl (by kernel_rfl) (by kernel_rfl) (by kernel_rfl) (fun _ _ _ h => h) (Or.inl ⟨by rfl, by intro w hSw; clear hSw; go_simp; (try with_reducible rfl)⟩) (by assumption) ?_
                try simp only [Act.put, List.setIfInBounds_toArray, List.set_cons_zero, List.set_cons_succ]
                refine wpAnyH_ready (rs := [28]) (by kernel_rfl) (by simp) ?_
                refine AllReadyH.cons rfl (fun K hK => ?_) AllReadyH.nil
                go_simp
                refine (vHas_any _ n1 h1 (m : Int) _ RS.out (by omega)).mono ?_
                rw [eG]
                rintro e x1 ⟨rfl, rfl⟩
                go_wp2_with fail
                refine hK.out _ _ (by assumption) (fun hHeld => ?_)
                clear hK K
                try simp only [Act.put, List.setIfInBounds_toArray, List.set_cons_zero, List.set_cons_succ]
                refine wpAnyH_take (i := 29) (oi := { dst := some 339, op := _, type := _, pos := _, after := _, guard := _ }) (v := .bool false) rfl (by kernel_rfl) (by kernel_rfl) (by kernel_rfl) (fun _ _ _ h => h) (Or.inl ⟨by rfl, by intro w hSw; clear hSw; go_simp; (try with_reducible rfl)⟩) (by assumption) ?_
                try simp only [Act.put, List.setIfInBounds_toArray, List.set_cons_zero, List.set_cons_succ]
                refine wpAnyH_take (i := 30) (oi := { dst := some 340, op := _, type := _, pos := _, after := _, guard := _ }) (v := .bool false) rfl (by kernel_rfl) (by kernel_rfl) (by kernel_rfl) (fun _ _ _ h => h) (Or.inl ⟨by rfl, by intro w hSw; clear hSw; go_simp; (try with_reducible rfl)⟩) (by assumption) ?_
                try simp only [Act.put, List.setIfInBounds_toArray, List.set_cons_zero, List.set_cons_succ]
                refine wpAnyH_take (i := 31) (oi := { dst := some 341, op := _, type := _, pos := _, after := _, guard := _ }) (v := .bool false) rfl (by kernel_rfl) (by kernel_rfl) (by kernel_rfl) (fun _ _ _ h => h) (Or.inl ⟨by rfl, by intro w hSw; clear hSw; go_simp; (try with_reducible rfl)⟩) (by assumption) ?_
                try simp only [Act.put, List.setIfInBounds_toArray, List.set_cons_zero, List.set_cons_succ]
                refine wpAnyH_take (i := 32) (oi := { dst := some 342, op := _, type := _, pos := _, after := _, guard := _ }) (v := .agg (mk 16 G)) rfl (by kernel_rfl) (by kernel_rfl) (by kernel_rfl) (fun _ _ _ h => h) (Or.inl ⟨by rfl, fun _ q => execB q.2.2.1 rfl rfl⟩) (by assumption) ?_
                try simp only [Act.put, List.setIfInBounds_toArray, List.set_cons_zero, List.set_cons_succ]
                refine wpAnyH_take (i := 33) (oi := { dst := some 343, op := _, type := _, pos := _, after := _, guard := _ }) (v := .agg (mk 16 FB)) rfl (by kernel_rfl) (by kernel_rfl) (by kernel_rfl) (fun _ _ _ h => h) (Or.inl ⟨by rfl, fun _ q => execB q.2.1 rfl rfl⟩) (by assumption) ?_
                try simp only [Act.put, List.setIfInBounds_toArray, List.set_cons_zero, List.set_cons_succ]
                refine wpAnyH_take (i := 34) (oi := { dst := some 344, op := _, type := _, pos := _, after := _, guard := _ }) (v := .bool true) rfl (by kernel_rfl) (by kernel_rfl) (by kernel_rfl) (fun _ _ _ h => h) (Or.inl ⟨by rfl, fun W _ => (execEB (f := G) (g := FB) rfl rfl rfl).trans (by rw [HP.out])⟩) (by assumption) ?_
                try simp only [Act.put, List.setIfInBounds_toArray, List.set_cons_zero, List.set_cons_succ]
                refine wpAnyH_take (i := 35) (oi := { dst := some 345, op := _, type := _, pos := _, after := _, guard := _ }) (v := .bool true) rfl (by kernel_rfl) (by kernel_rfl) (by kernel_rfl) (fun _ _ _ h => h) (Or.inl ⟨by rfl, by intro w hSw; clear hSw; go_simp; (try with_reducible rfl)⟩) (by assumption) ?_
                try simp only [Act.put, List.setIfInBounds_toArray, List.set_cons_zero, List.set_cons_succ]
                refine wpAnyH_take (i := 36) (oi := { dst := some 346, op := _, type := _, pos := _, after := _, guard := _ }) (v := .int .i64 (m : Int)) rfl (by kernel_rfl) (by kernel_rfl) (by kernel_rfl) (fun _ _ _ h => h) (Or.inl ⟨by rfl, by intro w hSw; clear hSw; go_simp; (try with_reducible rfl)⟩) (by assumption) ?_
                try simp only [Act.put, List.setIfInBounds_toArray, List.set_cons_zero, List.set_cons_succ]
                refine wpAnyH_take (i := 37) (oi := { dst := some 347, op := _, type := _, pos := _, after := _, guard := _ }) (v := .int .i64 FN) rfl (by kernel_rfl) (by kernel_rfl) (by kernel_rfl) (fun _ _ _ h => h) (Or.inl ⟨by rfl, by intro w hSw; clear hSw; go_simp; (try with_reducible rfl)⟩) (by assumption) ?_
                try simp only [Act.put, List.setIfInBounds_toArray, List.set_cons_zero, List.set_cons_succ]
                refine wpAnyH_take (i := 38) (oi := { dst := some 348, op := _, type := _, pos := _, after := _, guard := _ }) (v := .bool false) rfl (by kernel_rfl) (by kernel_rfl) (by kernel_rfl) (fun _ _ _ h => h) (Or.inl ⟨by rfl, by intro w hSw; clear hSw; go_simp; (try with_reducible rfl)⟩) (by assumption) ?_
                try simp only [Act.put, List.setIfInBounds_toArray, List.set_cons_zero, List.set_cons_succ]
                refine wpAnyH_take (i := 39) (oi := { dst := some 349, op := _, type := _, pos := _, after := _, guard := _ }) (v := .bool false) rfl (by kernel_rfl) (by kernel_rfl) (by kernel_rfl) (fun _ _ _ h => h) (Or.inl ⟨by rfl, by intro w hSw; clear hSw; go_simp; (try with_reducible rfl)⟩) (by assumption) ?_
                try simp only [Act.put, List.setIfInBounds_toArray, List.set_cons_zero, List.set_cons_succ]
                refine wpAnyH_take (i := 40) (oi := { dst := some 350, op := _, type := _, pos := _, after := _, guard := _ }) (v := .bool false) rfl (by kernel_rfl) (by kernel_rfl) (by kernel_rfl) (fun _ _ _ h => h) (Or.inl ⟨by rfl, by intro w hSw; clear hSw; go_simp; (try with_reducible rfl)⟩) (by assumption) ?_
                try simp only [Act.put, List.setIfInBounds_toArray, List.set_cons_zero, List.set_cons_succ]
                refine wpAnyH_done (by kernel_rfl) ?_ _
                clear hHeld
                clear K41 K43
                go_wp2_with fail
                go_roundg gk2
                case rel => exact ⟨m + 1, by omega, by go_num, K3, K4, RS, HB⟩
                case measure => omega
              | false =>
                have HP := Lib.hid hP
                clear hP
                replace K3 := K3.drew
                replace K4 := K4.drew
                replace K41 := K41.drew
                replace K43 := K43.drew
                replace RS : Hid (IRow w24.drew (.slice (some ⟨gs, 0, none⟩) n1 cs) n1 h1) := RS.out
                replace HB : Hid (Below w.heap.size w w24.drew) := HB.out.drew
                refine wp_region_held_drew (S := fun W => Blk W b43 16 FF 27 ∧ Blk W b4 16 FB 27 ∧ Blk W b41 16 G 27 ∧ Blk W b3 16 f 27) (by kernel_rfl) (⟨K43, K4, K41, K3⟩) (fun hHeld => ?_)
                generalize w24.drew = x0 at *
                refine wpAnyH_take (i := 0) (oi := { dst := some 310, op := _, type := _, pos := _, after := _, guard := _ }) (v := .bool true) rfl (by kernel_rfl) (by kernel_rfl) (by kernel_rfl) (fun _ _ _ h => h) (Or.inl ⟨by rfl, by intro w hSw; clear hSw; go_simp; (try with_reducible rfl)⟩) (by assumption) ?_
                try simp only [Act.put, List.setIfInBounds_toArray, List.set_cons_zero, List.set_cons_succ]
                refine wpAnyH_take (i := 1) (oi := { dst := some 311, op := _, type := _, pos := _, after := _, guard := _ }) (v := .bool false) rfl (by kernel_rfl) (by kernel_rfl) (by kernel_rfl) (fun _ _ _ h => h) (Or.inl ⟨by rfl, by intro w hSw; clear hSw; go_simp; (try with_reducible rfl)⟩) (by assumption) ?_
                try simp only [Act.put, List.setIfInBounds_toArray, List.set_cons_zero, List.set_cons_succ]
                refine wpAnyH_take (i := 2) (oi := { dst := some 312, op := _, type := _, pos := _, after := _, guard := _ }) (v := .bool false) rfl (by kernel_rfl) (by kernel_rfl) (by kernel_rfl) (fun _ _ _ h => h) (Or.inl ⟨by rfl, by intro w hSw; clear hSw; go_simp; (try with_reducible rfl)⟩) (by assumption) ?_
                try simp only [Act.put, List.setIfInBounds_toArray, List.set_cons_zero, List.set_cons_succ]
                refine wpAnyH_take (i := 3) (oi := { dst := some 313, op := _, type := _, pos := _, after := _, guard := _ }) (v := .bool true) rfl (by kernel_rfl) (by kernel_rfl) (by kernel_rfl) (fun _ _ _ h => h) (Or.inl ⟨by rfl, by intro w hSw; clear hSw; go_simp; (try with_reducible rfl)⟩) (by assumption) ?_
                try simp only [Act.put, List.setIfInBounds_toArray, List.set_cons_zero, List.set_cons_succ]
                refine wpAnyH_take (i := 4) (oi := { dst := some 314, op := _, type := _, pos := _, after := _, guard := _ }) (v := .bool false) rfl (by kernel_rfl) (by kernel_rfl) (by kernel_rfl) (fun _ _ _ h => h) (Or.inl ⟨by rfl, by intro w hSw; clear hSw; go_simp; (try with_reducible rfl)⟩) (by assumption) ?_
                try simp only [Act.put, List.setIfInBounds_toArray, List.set_cons_zero, List.set_cons_succ]
                refine wpAnyH_take (i := 5) (oi := { dst := some 315, op := _, type := _, pos := _, after := _, guard := _ }) (v := .bool false) rfl (by kernel_rfl) (by kernel_rfl) (by kernel_rfl) (fun _ _ _ h => h) (Or.inl ⟨by rfl, by intro w hSw; clear hSw; go_simp; (try with_reducible rfl)⟩) (by assumption) ?_
                try simp only [Act.put, List.setIfInBounds_toArray, List.set_cons_zero, List.set_cons_succ]
                refine wpAnyH_take (i := 6) (oi := { dst := some 316, op := _, type := _, pos := _, after := _, guard := _ }) (v := .bool false) rfl (by kernel_rfl) (by kernel_rfl) (by kernel_rfl) (fun _ _ _ h => h) (Or.inl ⟨by rfl, by intro w hSw; clear hSw; go_simp; (try with_reducible rfl)⟩) (by assumption) ?_
                try simp only [Act.put, List.setIfInBounds_toArray, List.set_cons_zero, List.set_cons_succ]
                refine wpAnyH_take (i := 7) (oi := { dst := some 317, op := _, type := _, pos := _, after := _, guard := _ }) (v := .bool true) rfl (by kernel_rfl) (by kernel_rfl) (by kernel_rfl) (fun _ _ _ h => h) (Or.inl ⟨by rfl, by intro w hSw; clear hSw; go_simp; (try with_reducible rfl)⟩) (by assumption) ?_
                try simp only [Act.put, List.setIfInBounds_toArray, List.set_cons_zero, List.set_cons_succ]
                refine wpAnyH_take (i := 8) (oi := { dst := some 318, op := _, type := _, pos := _, after := _, guard := _ }) (v := .bool false) rfl (by kernel_rfl) (by kernel_rfl) (by kernel_rfl) (fun _ _ _ h => h) (Or.inl ⟨by rfl, by intro w hSw; clear hSw; go_simp; (try with_reducible rfl)⟩) (by assumption) ?_
                try simp only [Act.put, List.setIfInBounds_toArray, List.set_cons_zero, List.set_cons_succ]
                refine wpAnyH_take (i := 9) (oi := { dst := some 319, op := _, type := _, pos := _, after := _, guard := _ }) (v := .bool false) rfl (by kernel_rfl) (by kernel_rfl) (by kernel_rfl) (fun _ _ _ h => h) (Or.inl ⟨by rfl, by intro w hSw; clear hSw; go_simp; (try with_reducible rfl)⟩) (by assumption) ?_
                try simp only [Act.put, List.setIfInBounds_toArray, List.set_cons_zero, List.set_cons_succ]
                refine wpAnyH_take (i := 10) (oi := { dst := some 320, op := _, type := _, pos := _, after := _, guard := _ }) (v := .bool false) rfl (by kernel_rfl) (by kernel_rfl) (by kernel_rfl) (fun _ _ _ h => h) (Or.inl ⟨by rfl, by intro w hSw; clear hSw; go_simp; (try with_reducible rfl)⟩) (by assumption) ?_
                try simp only [Act.put, List.setIfInBounds_toArray, List.set_cons_zero, List.set_cons_succ]
                refine wpAnyH_take (i := 11) (oi := { dst := some 321, op := _, type := _, pos := _, after := _, guard := _ }) (v := .agg (mk 16 FF)) rfl (by kernel_rfl) (by kernel_rfl) (by kernel_rfl) (fun _ _ _ h => h) (Or.inl ⟨by rfl, fun _ q => execB q.1 rfl rfl⟩) (by assumption) ?_
                try simp only [Act.put, List.setIfInBounds_toArray, List.set_cons_zero, List.set_cons_succ]
                refine wpAnyH_take (i := 12) (oi := { dst := some 322, op := _, type := _, pos := _, after := _, guard := _ }) (v := .agg (mk 16 FB)) rfl (by kernel_rfl) (by kernel_rfl) (by kernel_rfl) (fun _ _ _ h => h) (Or.inl ⟨by rfl, fun _ q => execB q.2.1 rfl rfl⟩) (by assumption) ?_
                try simp only [Act.put, List.setIfInBounds_toArray, List.set_cons_zero, List.set_cons_succ]
                refine wpAnyH_take (i := 13) (oi := { dst := some 323, op := _, type := _, pos := _, after := _, guard := _ }) (v := .bool false) rfl (by kernel_rfl) (by kernel_rfl) (by kernel_rfl) (fun _ _ _ h => h) (Or.inl ⟨by rfl, fun W _ => (execNB (f := FF) (g := FB) rfl rfl rfl).trans (by rw [sG]; rfl)⟩) (by assumption) ?_
                try simp only [Act.put, List.setIfInBounds_toArray, List.set_cons_zero, List.set_cons_succ]
                refine wpAnyH_take (i := 14) (oi := { dst := some 324, op := _, type := _, pos := _, after := _, guard := _ }) (v := .bool false) rfl (by kernel_rfl) (by kernel_rfl) (by kernel_rfl) (fun _ _ _ h => h) (Or.inl ⟨by rfl, by intro w hSw; clear hSw; go_simp; (try with_reducible rfl)⟩) (by assumption) ?_
                try simp only [Act.put, List.setIfInBounds_toArray, List.set_cons_zero, List.set_cons_succ]
                refine wpAnyH_take (i := 15) (oi := { dst := some 325, op := _, type := _, pos := _, after := _, guard := _ }) (v := .bool false) rfl (by kernel_rfl) (by kernel_rfl) (by kernel_rfl) (fun _ _ _ h => h) (Or.inl ⟨by rfl, by intro w hSw; clear hSw; go_simp; (try with_reducible rfl)⟩) (by assumption) ?_
                try simp only [Act.put, List.setIfInBounds_toArray, List.set_cons_zero, List.set_cons_succ]
                refine wpAnyH_take (i := 16) (oi := { dst := some 326, op := _, type := _, pos := _, after := _, guard := _ }) (v := .slice (some ⟨g5, 0, none⟩) n3 c5) rfl (by kernel_rfl) (by kernel_rfl) (by kernel_rfl) (fun _ _ _ h => h) (Or.inl ⟨by rfl, by intro w hSw; clear hSw; go_simp; (try with_reducible rfl)⟩) (by assumption) ?_
                try simp only [Act.put, List.setIfInBounds_toArray, List.set_cons_zero, List.set_cons_succ]
                refine wpAnyH_take (i := 17) (oi := { dst := some 327, op := _, type := _, pos := _, after := _, guard := _ }) (v := .int .i64 (n3 : Int)) rfl (by kernel_rfl) (by kernel_rfl) (by kernel_rfl) (fun _ _ _ h => h) (Or.inl ⟨by rfl, by intro w hSw; clear hSw; go_simp; (try with_reducible rfl)⟩) (by assumption) ?_
                try simp only [Act.put, List.setIfInBounds_toArray, List.set_cons_zero, List.set_cons_succ]
                refine wpAnyH_take (i := 18) (oi := { dst := some 328, op := _, type := _, pos := _, after := _, guard := _ }) (v := .slice (some ⟨gd, 0, none⟩) n3 cd) rfl (by kernel_rfl) (by kernel_rfl) (by kernel_rfl) (fun _ _ _ h => h) (Or.inl ⟨by rfl, by intro w hSw; clear hSw; go_simp; (try with_reducible rfl)⟩) (by assumption) ?_
                try simp only [Act.put, List.setIfInBounds_toArray, List.set_cons_zero, List.set_cons_succ]
                refine wpAnyH_take (i := 19) (oi := { dst := some 329, op := _, type := _, pos := _, after := _, guard := _ }) (v := .int .i64 (n3 : Int)) rfl (by kernel_rfl) (by kernel_rfl) (by kernel_rfl) (fun _ _ _ h => h) (Or.inl ⟨by rfl, by intro w hSw; clear hSw; go_simp; (try with_reducible rfl)⟩) (by assumption) ?_
                try simp only [Act.put, List.setIfInBounds_toArray, List.set_cons_zero, List.set_cons_succ]
                refine wpAnyH_take (i := 20) (oi := { dst := some 330, op := _, type := _, pos := _, after := _, guard := _ }) (v := .bool false) rfl (by kernel_rfl) (by kernel_rfl) (by kernel_rfl) (fun _ _ _ h => h) (Or.inl ⟨by rfl, by intro w hSw; clear hSw; go_simp; (try with_reducible rfl)⟩) (by assumption) ?_
                try simp only [Act.put, List.setIfInBounds_toArray, List.set_cons_zero, List.set_cons_succ]
                refine wpAnyH_take (i := 21) (oi := { dst := some 331, op := _, type := _, pos := _, after := _, guard := _ }) (v := .bool false) rfl (by kernel_rfl) (by kernel_rfl) (by kernel_rfl) (fun _ _ _ h => h) (Or.inl ⟨by rfl, by intro w hSw; clear hSw; go_simp; (try with_reducible rfl)⟩) (by assumption) ?_
                try simp only [Act.put, List.setIfInBounds_toArray, List.set_cons_zero, List.set_cons_succ]
                refine wpAnyH_take (i := 22) (oi := { dst := some 332, op := _, type := _, pos := _, after := _, guard := _ }) (v := .bool false) rfl (by kernel_rfl) (by kernel_rfl) (by kernel_rfl) (fun _ _ _ h => h) (Or.inl ⟨by rfl, by intro w hSw; clear hSw; go_simp; (try with_reducible rfl)⟩) (by assumption) ?_
                try simp only [Act.put, List.setIfInBounds_toArray, List.set_cons_zero, List.set_cons_succ]
                refine wpAnyH_take (i := 23) (oi := { dst := some 333, op := _, type := _, pos := _, after := _, guard := _ }) (v := .agg (mk 16 G)) rfl (by kernel_rfl) (by kernel_rfl) (by kernel_rfl) (fun _ _ _ h => h) (Or.inl ⟨by rfl, fun _ q => execB q.2.2.1 rfl rfl⟩) (by assumption) ?_
                try simp only [Act.put, List.setIfInBounds_toArray, List.set_cons_zero, List.set_cons_succ]
                refine wpAnyH_take (i := 24) (oi := { dst := some 334, op := _, type := _, pos := _, after := _, guard := _ }) (v := .agg (mk 16 f)) rfl (by kernel_rfl) (by kernel_rfl) (by kernel_rfl) (fun _ _ _ h => h) (Or.inl ⟨by rfl, fun _ q => execB q.2.2.2 rfl rfl⟩) (by assumption) ?_
                try simp only [Act.put, List.setIfInBounds_toArray, List.set_cons_zero, List.set_cons_succ]
                refine wpAnyH_take (i := 25) (oi := { dst := some 335, op := _, type := _, pos := _, after := _, guard := _ }) (v := .bool E) rfl (by kernel_rfl) (by kernel_rfl) (by kernel_rfl) (fun _ _ _ h => h) (Or.inl ⟨by rfl, fun W _ => (execEB (f := G) (g := f) rfl rfl rfl).trans (by rw [HE.out])⟩) (by assumption) ?_
                try simp only [Act.put, List.setIfInBounds_toArray, List.set_cons_zero, List.set_cons_succ]
                refine wpAnyH_take (i := 26) (oi := { dst := some 336, op := _, type := _, pos := _, after := _, guard := _ }) (v := .slice (some ⟨gs, 0, none⟩) n1 cs) rfl (by kernel_rfl) (by kernel_rfl) (by kernel_rfl) (fun _ _ _ h => h) (Or.inl ⟨by rfl, by intro w hSw; clear hSw; go_simp; (try with_reducible rfl)⟩) (by assumption) ?_
                try simp only [Act.put, List.setIfInBounds_toArray, List.set_cons_zero, List.set_cons_succ]
                refine wpAnyH_take (i := 27) (oi := { dst := some 337, op := _, type := _, pos := _, after := _, guard := _ }) (v := .int .i64 (m : Int)) rfl (by kernel_rfl) (by kernel_rfl) (by kernel_rfl) (fun _ _ _ h => h) (Or.inl ⟨by rfl, by intro w hSw; clear hSw; go_simp; (try with_reducible rfl)⟩) (by assumption) ?_
                try simp only [Act.put, List.setIfInBounds_toArray, List.set_cons_zero, List.set_cons_succ]
                refine wpAnyH_ready (rs := [28]) (by kernel_rfl) (by simp) ?_
                refine AllReadyH.cons rfl (fun K hK => ?_) AllReadyH.nil
                go_simp
                refine (vHas_any _ n1 h1 (m : Int) _ RS.out (by omega)).mono ?_
                rw [eG]
                rintro e x1 ⟨rfl, rfl⟩
                go_wp2_with fail
                refine hK.out _ _ (by assumption) (fun hHeld => ?_)
                clear hK K
                try simp only [Act.put, List.setIfInBounds_toArray, List.set_cons_zero, List.set_cons_succ]
                refine wpAnyH_take (i := 29) (oi := { dst := some 339, op := _, type := _, pos := _, after := _, guard := _ }) (v := .bool false) rfl (by kernel_rfl) (by kernel_rfl) (by kernel_rfl) (fun _ _ _ h => h) (Or.inl ⟨by rfl, by intro w hSw; clear hSw; go_simp; (try with_reducible rfl)⟩) (by assumption) ?_
                try simp only [Act.put, List.setIfInBounds_toArray, List.set_cons_zero, List.set_cons_succ]
                refine wpAnyH_take (i := 30) (oi := { dst := some 340, op := _, type := _, pos := _, after := _, guard := _ }) (v := .bool false) rfl (by kernel_rfl) (by kernel_rfl) (by kernel_rfl) (fun _ _ _ h => h) (Or.inl ⟨by rfl, by intro w hSw; clear hSw; go_simp; (try with_reducible rfl)⟩) (by assumption) ?_
                try simp only [Act.put, List.setIfInBounds_toArray, List.set_cons_zero, List.set_cons_succ]
                refine wpAnyH_take (i := 31) (oi := { dst := some 341, op := _, type := _, pos := _, after := _, guard := _ }) (v := .bool false) rfl (by kernel_rfl) (by kernel_rfl) (by kernel_rfl) (fun _ _ _ h => h) (Or.inl ⟨by rfl, by intro w hSw; clear hSw; go_simp; (try with_reducible rfl)⟩) (by assumption) ?_
                try simp only [Act.put, List.setIfInBounds_toArray, List.set_cons_zero, List.set_cons_succ]
                refine wpAnyH_take (i := 32) (oi := { dst := some 342, op := _, type := _, pos := _, after := _, guard := _ }) (v := .agg (mk 16 G)) rfl (by kernel_rfl) (by kernel_rfl) (by kernel_rfl) (fun _ _ _ h => h) (Or.inl ⟨by rfl, fun _ q => execB q.2.2.1 rfl rfl⟩) (by assumption) ?_
                try simp only [Act.put, List.setIfInBounds_toArray, List.set_cons_zero, List.set_cons_succ]
                refine wpAnyH_take (i := 33) (oi := { dst := some 343, op := _, type := _, pos := _, after := _, guard := _ }) (v := .agg (mk 16 FB)) rfl (by kernel_rfl) (by kernel_rfl) (by kernel_rfl) (fun _ _ _ h => h) (Or.inl ⟨by rfl, fun _ q => execB q.2.1 rfl rfl⟩) (by assumption) ?_
                try simp only [Act.put, List.setIfInBounds_toArray, List.set_cons_zero, List.set_cons_succ]
                refine wpAnyH_take (i := 34) (oi := { dst := some 344, op := _, type := _, pos := _, after := _, guard := _ }) (v := .bool false) rfl (by kernel_rfl) (by kernel_rfl) (by kernel_rfl) (fun _ _ _ h => h) (Or.inl ⟨by rfl, fun W _ => (execEB (f := G) (g := FB) rfl rfl rfl).trans (by rw [HP.out])⟩) (by assumption) ?_
                try simp only [Act.put, List.setIfInBounds_toArray, List.set_cons_zero, List.set_cons_succ]
                refine wpAnyH_take (i := 35) (oi := { dst := some 345, op := _, type := _, pos := _, after := _, guard := _ }) (v := .bool false) rfl (by kernel_rfl) (by kernel_rfl) (by kernel_rfl) (fun _ _ _ h => h) (Or.inl ⟨by rfl, by intro w hSw; clear hSw; go_simp; (try with_reducible rfl)⟩) (by assumption) ?_
                try simp only [Act.put, List.setIfInBounds_toArray, List.set_cons_zero, List.set_cons_succ]
                refine wpAnyH_take (i := 36) (oi := { dst := some 346, op := _, type := _, pos := _, after := _, guard := _ }) (v := undef) rfl (by kernel_rfl) (by kernel_rfl) (by kernel_rfl) (fun _ _ _ h => h) (Or.inr ⟨by rfl, rfl⟩) (by assumption) ?_
                try simp only [Act.put, List.setIfInBounds_toArray, List.set_cons_zero, List.set_cons_succ]
                refine wpAnyH_take (i := 37) (oi := { dst := some 347, op := _, type := _, pos := _, after := _, guard := _ }) (v := undef) rfl (by kernel_rfl) (by kernel_rfl) (by kernel_rfl) (fun _ _ _ h => h) (Or.inr ⟨by rfl, rfl⟩) (by assumption) ?_
                try simp only [Act.put, List.setIfInBounds_toArray, List.set_cons_zero, List.set_cons_succ]
                refine wpAnyH_take (i := 38) (oi := { dst := some 348, op := _, type := _, pos := _, after := _, guard := _ }) (v := undef) rfl (by kernel_rfl) (by kernel_rfl) (by kernel_rfl) (fun _ _ _ h => h) (Or.inr ⟨by rfl, rfl⟩) (by assumption) ?_
                try simp only [Act.put, List.setIfInBounds_toArray, List.set_cons_zero, List.set_cons_succ]
                refine wpAnyH_take (i := 39) (oi := { dst := some 349, op := _, type := _, pos := _, after := _, guard := _ }) (v := .bool false) rfl (by kernel_rfl) (by kernel_rfl) (by kernel_rfl) (fun _ _ _ h => h) (Or.inl ⟨by rfl, by intro w hSw; clear hSw; go_simp; (try with_reducible rfl)⟩) (by assumption) ?_
                try simp only [Act.put, List.setIfInBounds_toArray, List.set_cons_zero, List.set_cons_succ]
                refine wpAnyH_take (i := 40) (oi := { dst := some 350, op := _, type := _, pos := _, after := _, guard := _ }) (v := .bool false) rfl (by kernel_rfl) (by kernel_rfl) (by kernel_rfl) (fun _ _ _ h => h) (Or.inl ⟨by rfl, by intro w hSw; clear hSw; go_simp; (try with_reducible rfl)⟩) (by assumption) ?_
                try simp only [Act.put, List.setIfInBounds_toArray, List.set_cons_zero, List.set_cons_succ]
                refine wpAnyH_done (by kernel_rfl) ?_ _
                clear hHeld
                clear K41 K43
                go_wp2_with fail
                go_roundg gk2
                case rel => exact ⟨m + 1, by omega, by go_num, K3, K4, RS, HB⟩
                case measure => omega
      | false =>
        as_aux_lemma =>
          clear HAS
          subst hO
          clear HAO
          go_wp2_with (first | ((with_reducible show wpList _ _ _ (Oper.mk _ (Op.load 27 _) _ _ _ _ :: _) _ _); refine loadB (K3) rfl rfl rfl ?_) | ((with_reducible show wpList _ _ _ (Oper.mk _ (Op.load 27 _) _ _ _ (some _) :: _) _ _); refine loadgB (K3) rfl rfl rfl ?_))
          refine (iMV.out _).mono ?_
          rintro e w19 ⟨gm, cm, rfl, RM, hb⟩
          replace K3 := K3.below hb K3.lt
          replace K4 := K4.below hb K4.lt
          replace RS := Lib.hid (RS.out.below hb)
          replace RL := Lib.hid (RL.out.below hb)
          replace RD := Lib.hid (RD.out.below hb)
          replace HB : Hid (Below w.heap.size w w19) := HB.out.trans (hb.mono HB.out.size)
          clear hb
          clear RM
          obtain ⟨_, _, eL, _, CL⟩ := RL.out
          cases eL
          clear RL
          go_wp2_with fail
          generalize hb4 : w2.heap.size = b4 at *
          replace CL := CL.drew
          replace K3 := K3.drew
          replace K4 := K4.drew
          replace RS : Hid (IRow w19.drew (.slice (some ⟨gs, 0, none⟩) n1 cs) n1 h1) := RS.out
          replace HB : Hid (Below w.heap.size w w19.drew) := HB.out.drew
          refine wp_region_held_drew (S := fun W => CAt W gl (n2 * 16) h2 ∧ Blk W b4 16 FB 27) (by kernel_rfl) (⟨CL, K4⟩) (fun hHeld => ?_)
          generalize w19.drew = x0 at *
          refine wpAnyH_take (i := 0) (oi := { dst := some 241, op := _, type := _, pos := _, after := _, guard := _ }) (v := .bool true) rfl (by kernel_rfl) (by kernel_rfl) (by kernel_rfl) (fun _ _ _ h => h) (Or.inl ⟨by rfl, by intro w hSw; clear hSw; go_simp; (try with_reducible rfl)⟩) (by assumption) ?_
          try simp only [Act.put, List.setIfInBounds_toArray, List.set_cons_zero, List.set_cons_succ]
          refine wpAnyH_take (i := 1) (oi := { dst := some 242, op := _, type := _, pos := _, after := _, guard := _ }) (v := .bool false) rfl (by kernel_rfl) (by kernel_rfl) (by kernel_rfl) (fun _ _ _ h => h) (Or.inl ⟨by rfl, by intro w hSw; clear hSw; go_simp; (try with_reducible rfl)⟩) (by assumption) ?_
          try simp only [Act.put, List.setIfInBounds_toArray, List.set_cons_zero, List.set_cons_succ]
          refine wpAnyH_take (i := 2) (oi := { dst := some 243, op := _, type := _, pos := _, after := _, guard := _ }) (v := .bool false) rfl (by kernel_rfl) (by kernel_rfl) (by kernel_rfl) (fun _ _ _ h => h) (Or.inl ⟨by rfl, by intro w hSw; clear hSw; go_simp; (try with_reducible rfl)⟩) (by assumption) ?_
          try simp only [Act.put, List.setIfInBounds_toArray, List.set_cons_zero, List.set_cons_succ]
          refine wpAnyH_take (i := 3) (oi := { dst := some 244, op := _, type := _, pos := _, after := _, guard := _ }) (v := .int .i64 (n2 : Int)) rfl (by kernel_rfl) (by kernel_rfl) (by kernel_rfl) (fun _ _ _ h => h) (Or.inl ⟨by rfl, by intro w hSw; clear hSw; go_simp; (try with_reducible rfl)⟩) (by assumption) ?_
          try simp only [Act.put, List.setIfInBounds_toArray, List.set_cons_zero, List.set_cons_succ]
          refine wpAnyH_take (i := 4) (oi := { dst := some 245, op := _, type := _, pos := _, after := _, guard := _ }) (v := .slice (some ⟨gs, 0, none⟩) n1 cs) rfl (by kernel_rfl) (by kernel_rfl) (by kernel_rfl) (fun _ _ _ h => h) (Or.inl ⟨by rfl, by intro w hSw; clear hSw; go_simp; (try with_reducible rfl)⟩) (by assumption) ?_
          try simp only [Act.put, List.setIfInBounds_toArray, List.set_cons_zero, List.set_cons_succ]
          refine wpAnyH_take (i := 5) (oi := { dst := some 246, op := _, type := _, pos := _, after := _, guard := _ }) (v := .int .i64 (n1 : Int)) rfl (by kernel_rfl) (by kernel_rfl) (by kernel_rfl) (fun _ _ _ h => h) (Or.inl ⟨by rfl, by intro w hSw; clear hSw; go_simp; (try with_reducible rfl)⟩) (by assumption) ?_
          try simp only [Act.put, List.setIfInBounds_toArray, List.set_cons_zero, List.set_cons_succ]
          refine wpAnyH_take (i := 6) (oi := { dst := some 247, op := _, type := _, pos := _, after := _, guard := _ }) (v := .int .i64 8) rfl (by kernel_rfl) (by kernel_rfl) (by kernel_rfl) (fun _ _ _ h => h) (Or.inl ⟨by rfl, by intro w hSw; clear hSw; go_simp; (try with_reducible rfl)⟩) (by assumption) ?_
          try simp only [Act.put, List.setIfInBounds_toArray, List.set_cons_zero, List.set_cons_succ]
          refine wpAnyH_take (i := 7) (oi := { dst := some 248, op := _, type := _, pos := _, after := _, guard := _ }) (v := .bool false) rfl (by kernel_rfl) (by kernel_rfl) (by kernel_rfl) (fun _ _ _ h => h) (Or.inl ⟨by rfl, by intro w hSw; clear hSw; go_simp; (try with_reducible rfl)⟩) (by assumption) ?_
          try simp only [Act.put, List.setIfInBounds_toArray, List.set_cons_zero, List.set_cons_succ]
          refine wpAnyH_take (i := 8) (oi := { dst := some 249, op := _, type := _, pos := _, after := _, guard := _ }) (v := .bool false) rfl (by kernel_rfl) (by kernel_rfl) (by kernel_rfl) (fun _ _ _ h => h) (Or.inl ⟨by rfl, by intro w hSw; clear hSw; go_simp; (try with_reducible rfl)⟩) (by assumption) ?_
          try simp only [Act.put, List.setIfInBounds_toArray, List.set_cons_zero, List.set_cons_succ]
          refine wpAnyH_take (i := 9) (oi := { dst := some 250, op := _, type := _, pos := _, after := _, guard := _ }) (v := .bool false) rfl (by kernel_rfl) (by kernel_rfl) (by kernel_rfl) (fun _ _ _ h => h) (Or.inl ⟨by rfl, by intro w hSw; clear hSw; go_simp; (try with_reducible rfl)⟩) (by assumption) ?_
          try simp only [Act.put, List.setIfInBounds_toArray, List.set_cons_zero, List.set_cons_succ]
          refine wpAnyH_take (i := 10) (oi := { dst := some 251, op := _, type := _, pos := _, after := _, guard := _ }) (v := .slice (some ⟨gl, 0, none⟩) n2 cl1) rfl (by kernel_rfl) (by kernel_rfl) (by kernel_rfl) (fun _ _ _ h => h) (Or.inl ⟨by rfl, by intro w hSw; clear hSw; go_simp; (try with_reducible rfl)⟩) (by assumption) ?_
          try simp only [Act.put, List.setIfInBounds_toArray, List.set_cons_zero, List.set_cons_succ]
          refine wpAnyH_take (i := 11) (oi := { dst := some 252, op := _, type := _, pos := _, after := _, guard := _ }) (v := .int .i64 (n2 : Int)) rfl (by kernel_rfl) (by kernel_rfl) (by kernel_rfl) (fun _ _ _ h => h) (Or.inl ⟨by rfl, by intro w hSw; clear hSw; go_simp; (try with_reducible rfl)⟩) (by assumption) ?_
          try simp only [Act.put, List.setIfInBounds_toArray, List.set_cons_zero, List.set_cons_succ]
          refine wpAnyH_take (i := 12) (oi := { dst := some 253, op := _, type := _, pos := _, after := _, guard := _ }) (v := .int .i64 (n2 : Int)) rfl (by kernel_rfl) (by kernel_rfl) (by kernel_rfl) (fun _ _ _ h => h) (Or.inl ⟨by rfl, by intro w hSw; clear hSw; go_simp; (try with_reducible rfl)⟩) (by assumption) ?_
          try simp only [Act.put, List.setIfInBounds_toArray, List.set_cons_zero, List.set_cons_succ]
          refine wpAnyH_take (i := 13) (oi := { dst := some 254, op := _, type := _, pos := _, after := _, guard := _ }) (v := .bool false) rfl (by kernel_rfl) (by kernel_rfl) (by kernel_rfl) (fun _ _ _ h => h) (Or.inl ⟨by rfl, by intro w hSw; clear hSw; go_simp; (try with_reducible rfl)⟩) (by assumption) ?_
          try simp only [Act.put, List.setIfInBounds_toArray, List.set_cons_zero, List.set_cons_succ]
          refine wpAnyH_take (i := 14) (oi := { dst := some 255, op := _, type := _, pos := _, after := _, guard := _ }) (v := .bool false) rfl (by kernel_rfl) (by kernel_rfl) (by kernel_rfl) (fun _ _ _ h => h) (Or.inl ⟨by rfl, by intro w hSw; clear hSw; go_simp; (try with_reducible rfl)⟩) (by assumption) ?_
          try simp only [Act.put, List.setIfInBounds_toArray, List.set_cons_zero, List.set_cons_succ]
          refine wpAnyH_take (i := 15) (oi := { dst := some 256, op := _, type := _, pos := _, after := _, guard := _ }) (v := .bool false) rfl (by kernel_rfl) (by kernel_rfl) (by kernel_rfl) (fun _ _ _ h => h) (Or.inl ⟨by rfl, by intro w hSw; clear hSw; go_simp; (try with_reducible rfl)⟩) (by assumption) ?_
          try simp only [Act.put, List.setIfInBounds_toArray, List.set_cons_zero, List.set_cons_succ]
          refine wpAnyH_take (i := 16) (oi := { dst := some 257, op := _, type := _, pos := _, after := _, guard := _ }) (v := .slice (some ⟨gl, 0, none⟩) n2 cl1) rfl (by kernel_rfl) (by kernel_rfl) (by kernel_rfl) (fun _ _ _ h => h) (Or.inl ⟨by rfl, by intro w hSw; clear hSw; go_simp; (try with_reducible rfl)⟩) (by assumption) ?_
          try simp only [Act.put, List.setIfInBounds_toArray, List.set_cons_zero, List.set_cons_succ]
          refine wpAnyH_take (i := 17) (oi := { dst := some 258, op := _, type := _, pos := _, after := _, guard := _ }) (v := .int .i64 (n2 : Int)) rfl (by kernel_rfl) (by kernel_rfl) (by kernel_rfl) (fun _ _ _ h => h) (Or.inl ⟨by rfl, by intro w hSw; clear hSw; go_simp; (try with_reducible rfl)⟩) (by assumption) ?_
          try simp only [Act.put, List.setIfInBounds_toArray, List.set_cons_zero, List.set_cons_succ]
          refine wpAnyH_take (i := 18) (oi := { dst := some 259, op := _, type := _, pos := _, after := _, guard := _ }) (v := .bool false) rfl (by kernel_rfl) (by kernel_rfl) (by kernel_rfl) (fun _ _ _ h => h) (Or.inl ⟨by rfl, by intro w hSw; clear hSw; go_simp; (try with_reducible rfl)⟩) (by assumption) ?_
          try simp only [Act.put, List.setIfInBounds_toArray, List.set_cons_zero, List.set_cons_succ]
          refine wpAnyH_take (i := 19) (oi := { dst := some 260, op := _, type := _, pos := _, after := _, guard := _ }) (v := .bool false) rfl (by kernel_rfl) (by kernel_rfl) (by kernel_rfl) (fun _ _ _ h => h) (Or.inl ⟨by rfl, by intro w hSw; clear hSw; go_simp; (try with_reducible rfl)⟩) (by assumption) ?_
          try simp only [Act.put, List.setIfInBounds_toArray, List.set_cons_zero, List.set_cons_succ]
          refine wpAnyH_take (i := 20) (oi := { dst := some 261, op := _, type := _, pos := _, after := _, guard := _ }) (v := .bool false) rfl (by kernel_rfl) (by kernel_rfl) (by kernel_rfl) (fun _ _ _ h => h) (Or.inl ⟨by rfl, by intro w hSw; clear hSw; go_simp; (try with_reducible rfl)⟩) (by assumption) ?_
          try simp only [Act.put, List.setIfInBounds_toArray, List.set_cons_zero, List.set_cons_succ]
          refine wpAnyH_take (i := 21) (oi := { dst := some 262, op := _, type := _, pos := _, after := _, guard := _ }) (v := .slice (some ⟨gl, 0, none⟩) n2 cl1) rfl (by kernel_rfl) (by kernel_rfl) (by kernel_rfl) (fun _ _ _ h => h) (Or.inl ⟨by rfl, by intro w hSw; clear hSw; go_simp; (try with_reducible rfl)⟩) (by assumption) ?_
          try simp only [Act.put, List.setIfInBounds_toArray, List.set_cons_zero, List.set_cons_succ]
          refine wpAnyH_take (i := 22) (oi := { dst := some 263, op := _, type := _, pos := _, after := _, guard := _ }) (v := .pointer (some ⟨gl, 0, none⟩)) rfl (by kernel_rfl) (by kernel_rfl) (by kernel_rfl) (fun _ _ _ h => h) (Or.inl ⟨by rfl, by intro w hSw; clear hSw; go_simp; (try with_reducible rfl)⟩) (by assumption) ?_
          try simp only [Act.put, List.setIfInBounds_toArray, List.set_cons_zero, List.set_cons_succ]
          refine wpAnyH_take (i := 23) (oi := { dst := some 264, op := _, type := _, pos := _, after := _, guard := _ }) (v := .agg (mk 16 fun i => h2 (0 + i))) rfl (by kernel_rfl) (by kernel_rfl) (by kernel_rfl) (fun _ _ _ h => h) (Or.inl ⟨by rfl, fun _ q => execAB q.1 (by omega) rfl rfl⟩) (by assumption) ?_
          try simp only [Act.put, List.setIfInBounds_toArray, List.set_cons_zero, List.set_cons_succ]
          refine wpAnyH_take (i := 24) (oi := { dst := some 265, op := _, type := _, pos := _, after := _, guard := _ }) (v := .agg (mk 16 FB)) rfl (by kernel_rfl) (by kernel_rfl) (by kernel_rfl) (fun _ _ _ h => h) (Or.inl ⟨by rfl, fun _ q => execB q.2 rfl rfl⟩) (by assumption) ?_
          try simp only [Act.put, List.setIfInBounds_toArray, List.set_cons_zero, List.set_cons_succ]
          refine wpAnyH_take (i := 25) (oi := { dst := some 266, op := _, type := _, pos := _, after := _, guard := _ }) (v := .bool false) rfl (by kernel_rfl) (by kernel_rfl) (by kernel_rfl) (fun _ _ _ h => h) (Or.inl ⟨by rfl, fun W _ => (execNB (f := fun i => h2 (0 + i)) (g := FB) rfl rfl rfl).trans (by rw [sFL]; rfl)⟩) (by assumption) ?_
          try simp only [Act.put, List.setIfInBounds_toArray, List.set_cons_zero, List.set_cons_succ]
          refine wpAnyH_take (i := 26) (oi := { dst := some 267, op := _, type := _, pos := _, after := _, guard := _ }) (v := .bool false) rfl (by kernel_rfl) (by kernel_rfl) (by kernel_rfl) (fun _ _ _ h => h) (Or.inl ⟨by rfl, by intro w hSw; clear hSw; go_simp; (try with_reducible rfl)⟩) (by assumption) ?_
          try simp only [Act.put, List.setIfInBounds_toArray, List.set_cons_zero, List.set_cons_succ]
          refine wpAnyH_take (i := 27) (oi := { dst := some 268, op := _, type := _, pos := _, after := _, guard := _ }) (v := .bool false) rfl (by kernel_rfl) (by kernel_rfl) (by kernel_rfl) (fun _ _ _ h => h) (Or.inl ⟨by rfl, by intro w hSw; clear hSw; go_simp; (try with_reducible rfl)⟩) (by assumption) ?_
          try simp only [Act.put, List.setIfInBounds_toArray, List.set_cons_zero, List.set_cons_succ]
          refine wpAnyH_take (i := 28) (oi := { dst := some 269, op := _, type := _, pos := _, after := _, guard := _ }) (v := .slice (some ⟨gs, 0, none⟩) n1 cs) rfl (by kernel_rfl) (by kernel_rfl) (by kernel_rfl) (fun _ _ _ h => h) (Or.inl ⟨by rfl, by intro w hSw; clear hSw; go_simp; (try with_reducible rfl)⟩) (by assumption) ?_
          try simp only [Act.put, List.setIfInBounds_toArray, List.set_cons_zero, List.set_cons_succ]
          refine wpAnyH_ready (rs := [29]) (by kernel_rfl) (by simp) ?_
          refine AllReadyH.cons rfl (fun K hK => ?_) AllReadyH.nil
          go_simp
          refine (vHas_any _ n1 h1 0 _ RS.out (by omega)).mono ?_
          rintro e x1 ⟨rfl, rfl⟩
          go_wp2_with fail
          refine hK.out _ _ (by assumption) (fun hHeld => ?_)
          clear hK K
          try simp only [Act.put, List.setIfInBounds_toArray, List.set_cons_zero, List.set_cons_succ]
          refine wpAnyH_take (i := 30) (oi := { dst := some 271, op := _, type := _, pos := _, after := _, guard := _ }) (v := .bool false) rfl (by kernel_rfl) (by kernel_rfl) (by kernel_rfl) (fun _ _ _ h => h) (Or.inl ⟨by rfl, by intro w hSw; clear hSw; go_simp; (try with_reducible rfl)⟩) (by assumption) ?_
          try simp only [Act.put, List.setIfInBounds_toArray, List.set_cons_zero, List.set_cons_succ]
          refine wpAnyH_take (i := 31) (oi := { dst := some 272, op := _, type := _, pos := _, after := _, guard := _ }) (v := .bool false) rfl (by kernel_rfl) (by kernel_rfl) (by kernel_rfl) (fun _ _ _ h => h) (Or.inl ⟨by rfl, by intro w hSw; clear hSw; go_simp; (try with_reducible rfl)⟩) (by assumption) ?_
          try simp only [Act.put, List.setIfInBounds_toArray, List.set_cons_zero, List.set_cons_succ]
          refine wpAnyH_take (i := 32) (oi := { dst := some 273, op := _, type := _, pos := _, after := _, guard := _ }) (v := .bool false) rfl (by kernel_rfl) (by kernel_rfl) (by kernel_rfl) (fun _ _ _ h => h) (Or.inl ⟨by rfl, by intro w hSw; clear hSw; go_simp; (try with_reducible rfl)⟩) (by assumption) ?_
          try simp only [Act.put, List.setIfInBounds_toArray, List.set_cons_zero, List.set_cons_succ]
          refine wpAnyH_take (i := 33) (oi := { dst := some 274, op := _, type := _, pos := _, after := _, guard := _ }) (v := .slice (some ⟨gd, 0, none⟩) n3 cd) rfl (by kernel_rfl) (by kernel_rfl) (by kernel_rfl) (fun _ _ _ h => h) (Or.inl ⟨by rfl, by intro w hSw; clear hSw; go_simp; (try with_reducible rfl)⟩) (by assumption) ?_
          try simp only [Act.put, List.setIfInBounds_toArray, List.set_cons_zero, List.set_cons_succ]
          refine wpAnyH_take (i := 34) (oi := { dst := some 275, op := _, type := _, pos := _, after := _, guard := _ }) (v := .int .i64 (n3 : Int)) rfl (by kernel_rfl) (by kernel_rfl) (by kernel_rfl) (fun _ _ _ h => h) (Or.inl ⟨by rfl, by intro w hSw; clear hSw; go_simp; (try with_reducible rfl)⟩) (by assumption) ?_
          try simp only [Act.put, List.setIfInBounds_toArray, List.set_cons_zero, List.set_cons_succ]
          refine wpAnyH_take (i := 35) (oi := { dst := some 276, op := _, type := _, pos := _, after := _, guard := _ }) (v := .slice (some ⟨gm, 0, none⟩) n4 cm) rfl (by kernel_rfl) (by kernel_rfl) (by kernel_rfl) (fun _ _ _ h => h) (Or.inl ⟨by rfl, by intro w hSw; clear hSw; go_simp; (try with_reducible rfl)⟩) (by assumption) ?_
          try simp only [Act.put, List.setIfInBounds_toArray, List.set_cons_zero, List.set_cons_succ]
          refine wpAnyH_take (i := 36) (oi := { dst := some 277, op := _, type := _, pos := _, after := _, guard := _ }) (v := .int .i64 (n4 : Int)) rfl (by kernel_rfl) (by kernel_rfl) (by kernel_rfl) (fun _ _ _ h => h) (Or.inl ⟨by rfl, by intro w hSw; clear hSw; go_simp; (try with_reducible rfl)⟩) (by assumption) ?_
          try simp only [Act.put, List.setIfInBounds_toArray, List.set_cons_zero, List.set_cons_succ]
          refine wpAnyH_take (i := 37) (oi := { dst := some 278, op := _, type := _, pos := _, after := _, guard := _ }) (v := .bool false) rfl (by kernel_rfl) (by kernel_rfl) (by kernel_rfl) (fun _ _ _ h => h) (Or.inl ⟨by rfl, by intro w hSw; clear hSw; go_simp; (try with_reducible rfl)⟩) (by assumption) ?_
          try simp only [Act.put, List.setIfInBounds_toArray, List.set_cons_zero, List.set_cons_succ]
          refine wpAnyH_take (i := 38) (oi := { dst := some 279, op := _, type := _, pos := _, after := _, guard := _ }) (v := .bool false) rfl (by kernel_rfl) (by kernel_rfl) (by kernel_rfl) (fun _ _ _ h => h) (Or.inl ⟨by rfl, by intro w hSw; clear hSw; go_simp; (try with_reducible rfl)⟩) (by assumption) ?_
          try simp only [Act.put, List.setIfInBounds_toArray, List.set_cons_zero, List.set_cons_succ]
          refine wpAnyH_take (i := 39) (oi := { dst := some 280, op := _, type := _, pos := _, after := _, guard := _ }) (v := .bool false) rfl (by kernel_rfl) (by kernel_rfl) (by kernel_rfl) (fun _ _ _ h => h) (Or.inl ⟨by rfl, by intro w hSw; clear hSw; go_simp; (try with_reducible rfl)⟩) (by assumption) ?_
          try simp only [Act.put, List.setIfInBounds_toArray, List.set_cons_zero, List.set_cons_succ]
          refine wpAnyH_take (i := 40) (oi := { dst := some 281, op := _, type := _, pos := _, after := _, guard := _ }) (v := .slice (some ⟨gd, 0, none⟩) n3 cd) rfl (by kernel_rfl) (by kernel_rfl) (by kernel_rfl) (fun _ _ _ h => h) (Or.inl ⟨by rfl, by intro w hSw; clear hSw; go_simp; (try with_reducible rfl)⟩) (by assumption) ?_
          try simp only [Act.put, List.setIfInBounds_toArray, List.set_cons_zero, List.set_cons_succ]
          refine wpAnyH_take (i := 41) (oi := { dst := some 282, op := _, type := _, pos := _, after := _, guard := _ }) (v := .int .i64 (n3 : Int)) rfl (by kernel_rfl) (by kernel_rfl) (by kernel_rfl) (fun _ _ _ h => h) (Or.inl ⟨by rfl, by intro w hSw; clear hSw; go_simp; (try with_reducible rfl)⟩) (by assumption) ?_
          try simp only [Act.put, List.setIfInBounds_toArray, List.set_cons_zero, List.set_cons_succ]
          refine wpAnyH_take (i := 42) (oi := { dst := some 283, op := _, type := _, pos := _, after := _, guard := _ }) (v := .bool Z3) rfl (by kernel_rfl) (by kernel_rfl) (by kernel_rfl) (fun _ _ _ h => h) (Or.inl ⟨by rfl, by intro w hSw; clear hSw; go_simp; (try with_reducible rfl)⟩) (by assumption) ?_
          try simp only [Act.put, List.setIfInBounds_toArray, List.set_cons_zero, List.set_cons_succ]
          refine wpAnyH_take (i := 43) (oi := { dst := some 284, op := _, type := _, pos := _, after := _, guard := _ }) (v := .slice (some ⟨gm, 0, none⟩) n4 cm) rfl (by kernel_rfl) (by kernel_rfl) (by kernel_rfl) (fun _ _ _ h => h) (Or.inl ⟨by rfl, by intro w hSw; clear hSw; go_simp; (try with_reducible rfl)⟩) (by assumption) ?_
          try simp only [Act.put, List.setIfInBounds_toArray, List.set_cons_zero, List.set_cons_succ]
          refine wpAnyH_take (i := 44) (oi := { dst := some 285, op := _, type := _, pos := _, after := _, guard := _ }) (v := .int .i64 (n4 : Int)) rfl (by kernel_rfl) (by kernel_rfl) (by kernel_rfl) (fun _ _ _ h => h) (Or.inl ⟨by rfl, by intro w hSw; clear hSw; go_simp; (try with_reducible rfl)⟩) (by assumption) ?_
          try simp only [Act.put, List.setIfInBounds_toArray, List.set_cons_zero, List.set_cons_succ]
          refine wpAnyH_take (i := 45) (oi := { dst := some 286, op := _, type := _, pos := _, after := _, guard := _ }) (v := .bool Z3) rfl (by kernel_rfl) (by kernel_rfl) (by kernel_rfl) (fun _ _ _ h => h) (Or.inl ⟨by rfl, by intro w hSw; clear hSw; go_simp; (try with_reducible rfl)⟩) (by assumption) ?_
          try simp only [Act.put, List.setIfInBounds_toArray, List.set_cons_zero, List.set_cons_succ]
          refine wpAnyH_take (i := 46) (oi := { dst := some 287, op := _, type := _, pos := _, after := _, guard := _ }) (v := .bool false) rfl (by kernel_rfl) (by kernel_rfl) (by kernel_rfl) (fun _ _ _ h => h) (Or.inl ⟨by rfl, by intro w hSw; clear hSw; go_simp; (try with_reducible rfl)⟩) (by assumption) ?_
          try simp only [Act.put, List.setIfInBounds_toArray, List.set_cons_zero, List.set_cons_succ]
          refine wpAnyH_take (i := 47) (oi := { dst := some 288, op := _, type := _, pos := _, after := _, guard := _ }) (v := .bool false) rfl (by kernel_rfl) (by kernel_rfl) (by kernel_rfl) (fun _ _ _ h => h) (Or.inl ⟨by rfl, by intro w hSw; clear hSw; go_simp; (try with_reducible rfl)⟩) (by assumption) ?_
          try simp only [Act.put, List.setIfInBounds_toArray, List.set_cons_zero, List.set_cons_succ]
          refine wpAnyH_done (by kernel_rfl) ?_ _
          clear hHeld
          clear CL
          go_wp2_with fail
          generalize hb3 : w1.heap.size = b3 at *
          skip
          go_loopg [40] 8 (fun gk s40 wr => ∃ m : Nat, m + gk = 8 ∧ s40 = .int .i64 m ∧ Blk wr b3 16 f 27 ∧ Blk wr b4 16 FB 27 ∧ Hid (IRow wr (.slice (some ⟨gs, 0, none⟩) n1 cs) n1 h1) ∧ Hid (Below w.heap.size w wr))
          case atStart => exact ⟨0, by omega, rfl, K3, K4, RS, HB⟩
          case round =>
            clear K3 K4 RS HB
            obtain ⟨m, hmg, rfl, K3, K4, RS, HB⟩ := hrel
            cases gk with
            | zero =>
              have hk : ¬ ((m : Int) < 8) := by omega
              go_wp2_with fail
              go_ret
              exact ⟨rfl, HB.out⟩
            | succ gk2 =>
              have hk : (m : Int) < 8 := by omega
              have hk0 : (0 : Int) ≤ (m : Int) := by omega
              obtain ⟨G, FF, q, h5, iG, iFG, sG, iDG, eG, lG⟩ := HLP.out m (by omega)
              have IG := Lib.hid iG
              have IFG := Lib.hid iFG
              have IDG := Lib.hid iDG
              have LG := Lib.hid lG
              clear iG iFG iDG lG
              generalize hE : sameB G f = E at *
              have eE : (E != E) = false := by cases E <;> rfl
              have HE := Lib.hid hE
              clear hE
              go_wp2_with (first | ((with_reducible show wpList _ _ _ (Oper.mk _ (Op.load 27 _) _ _ _ _ :: _) _ _); refine loadB (K3) rfl rfl rfl ?_) | ((with_reducible show wpList _ _ _ (Oper.mk _ (Op.load 27 _) _ _ _ (some _) :: _) _ _); refine loadgB (K3) rfl rfl rfl ?_))
              refine (IG.out _).mono ?_
              rintro e w20 ⟨rfl, hb⟩
              replace K3 := K3.below hb K3.lt
              replace K4 := K4.below hb K4.lt
              replace RS := Lib.hid (RS.out.below hb)
              replace HB : Hid (Below w.heap.size w w20) := HB.out.trans (hb.mono HB.out.size)
              clear hb
              replace K3 := K3.alloc (.cells (mk 16 G) 27)
              replace K4 := K4.alloc (.cells (mk 16 G) 27)
              replace RS := Lib.hid (RS.out.below ((Below.refl _ _).alloc (Nat.le_refl _) (.cells (mk 16 G) 27)))
              have K41 := Blk.new w20 16 G 27
              replace HB : Hid (Below w.heap.size w (w20.alloc (.cells (mk 16 G) 27))) := HB.out.alloc HB.out.size _
              go_wp2_with (first | ((with_reducible show wpList _ _ _ (Oper.mk _ (Op.load 27 _) _ _ _ _ :: _) _ _); refine loadB (K41) rfl rfl rfl ?_) | ((with_reducible show wpList _ _ _ (Oper.mk _ (Op.load 27 _) _ _ _ (some _) :: _) _ _); refine loadgB (K41) rfl rfl rfl ?_))
              generalize w20.alloc (.cells (mk 16 G) 27) = w20a at *
              refine (IFG.out _).mono ?_
              rintro e w21 ⟨rfl, hb⟩
              replace K3 := K3.below hb K3.lt
              replace K4 := K4.below hb K4.lt
              replace K41 := K41.below hb K41.lt
              replace RS := Lib.hid (RS.out.below hb)
              replace HB : Hid (Below w.heap.size w w21) := HB.out.trans (hb.mono HB.out.size)
              clear hb
              replace K3 := K3.alloc (.cells (mk 16 FF) 27)
              replace K4 := K4.alloc (.cells (mk 16 FF) 27)
              replace K41 := K41.alloc (.cells (mk 16 FF) 27)
              replace RS := Lib.hid (RS.out.below ((Below.refl _ _).alloc (Nat.le_refl _) (.cells (mk 16 FF) 27)))
              have K43 := Blk.new w21 16 FF 27
              replace HB : Hid (Below w.heap.size w (w21.alloc (.cells (mk 16 FF) 27))) := HB.out.alloc HB.out.size _
              go_wp2_with (first | ((with_reducible show wpList _ _ _ (Oper.mk _ (Op.load 27 _) _ _ _ _ :: _) _ _); refine loadB (K41) rfl rfl rfl ?_) | ((with_reducible show wpList _ _ _ (Oper.mk _ (Op.load 27 _) _ _ _ (some _) :: _) _ _); refine loadgB (K41) rfl rfl rfl ?_))
              generalize w21.alloc (.cells (mk 16 FF) 27) = w21a at *
              refine (IDG.out _).mono ?_
              rintro e w22 ⟨g5, c5, rfl, R5, hb⟩
              replace K3 := K3.below hb K3.lt
              replace K4 := K4.below hb K4.lt
              replace K41 := K41.below hb K41.lt
              replace K43 := K43.below hb K43.lt
              replace RS := Lib.hid (RS.out.below hb)
              replace HB : Hid (Below w.heap.size w w22) := HB.out.trans (hb.mono HB.out.size)
              clear hb
              clear R5
              go_wp2_with fail
              generalize hb41 : w20.heap.size = b41 at *
              generalize hb43 : w21.heap.size = b43 at *
              cases hP : sameB G FB with
              | true =>
                have HP := Lib.hid hP
                have lt1 := LG.out hP
                clear hP
                replace K3 := K3.drew
                replace K4 := K4.drew
                replace K41 := K41.drew
                replace K43 := K43.drew
                replace RS : Hid (IRow w22.drew (.slice (some ⟨gs, 0, none⟩) n1 cs) n1 h1) := RS.out
                replace HB : Hid (Below w.heap.size w w22.drew) := HB.out.drew
                refine wp_region_held_drew (S := fun W => Blk W b43 16 FF 27 ∧ Blk W b4 16 FB 27 ∧ Blk W b41 16 G 27 ∧ Blk W b3 16 f 27) (by kernel_rfl) (⟨K43, K4, K41, K3⟩) (fun hHeld => ?_)
                generalize w22.drew = x0 at *
                refine wpAnyH_take (i := 0) (oi := { dst := some 310, op := _, type := _, pos := _, after := _, guard := _ }) (v := .bool true) rfl (by kernel_rfl) (by kernel_rfl) (by kernel_rfl) (fun _ _ _ h => h) (Or.inl ⟨by rfl, by intro w hSw; clear hSw; go_simp; (try with_reducible rfl)⟩) (by assumption) ?_
                try simp only [Act.put, List.setIfInBounds_toArray, List.set_cons_zero, List.set_cons_succ]
                refine wpAnyH_take (i := 1) (oi := { dst := some 311, op := _, type := _, pos := _, after := _, guard := _ }) (v := .bool false) rfl (by kernel_rfl) (by kernel_rfl) (by kernel_rfl) (fun _ _ _ h => h) (Or.inl ⟨by rfl, by intro w hSw; clear hSw; go_simp; (try with_reducible rfl)⟩) (by assumption) ?_
                try simp only [Act.put, List.setIfInBounds_toArray, List.set_cons_zero, List.set_cons_succ]
                refine wpAnyH_take (i := 2) (oi := { dst := some 312, op := _, type := _, pos := _, after := _, guard := _ }) (v := .bool false) rfl (by kernel_rfl) (by kernel_rfl) (by kernel_rfl) (fun _ _ _ h => h) (Or.inl ⟨by rfl, by intro w hSw; clear hSw; go_simp; (try with_reducible rfl)⟩) (by assumption) ?_
                try simp only [Act.put, List.setIfInBounds_toArray, List.set_cons_zero, List.set_cons_succ]
                refine wpAnyH_take (i := 3) (oi := { dst := some 313, op := _, type := _, pos := _, after := _, guard := _ }) (v := .bool true) rfl (by kernel_rfl) (by kernel_rfl) (by kernel_rfl) (fun _ _ _ h => h) (Or.inl ⟨by rfl, by intro w hSw; clear hSw; go_simp; (try with_reducible rfl)⟩) (by assumption) ?_
                try simp only [Act.put, List.setIfInBounds_toArray, List.set_cons_zero, List.set_cons_succ]
                refine wpAnyH_take (i := 4) (oi := { dst := some 314, op := _, type := _, pos := _, after := _, guard := _ }) (v := .bool false) rfl (by kernel_rfl) (by kernel_rfl) (by kernel_rfl) (fun _ _ _ h => h) (Or.inl ⟨by rfl, by intro w hSw; clear hSw; go_simp; (try with_reducible rfl)⟩) (by assumption) ?_
                try simp only [Act.put, List.setIfInBounds_toArray, List.set_cons_zero, List.set_cons_succ]
                refine wpAnyH_take (i := 5) (oi := { dst := some 315, op := _, type := _, pos := _, after := _, guard := _ }) (v := .bool false) rfl (by kernel_rfl) (by kernel_rfl) (by kernel_rfl) (fun _ _ _ h => h) (Or.inl ⟨by rfl, by intro w hSw; clear hSw; go_simp; (try with_reducible rfl)⟩) (by assumption) ?_
                try simp only [Act.put, List.setIfInBounds_toArray, List.set_cons_zero, List.set_cons_succ]
                refine wpAnyH_take (i := 6) (oi := { dst := some 316, op := _, type := _, pos := _, after := _, guard := _ }) (v := .bool false) rfl (by kernel_rfl) (by kernel_rfl) (by kernel_rfl) (fun _ _ _ h => h) (Or.inl ⟨by rfl, by intro w hSw; clear hSw; go_simp; (try with_reducible rfl)⟩) (by assumption) ?_
                try simp only [Act.put, List.setIfInBounds_toArray, List.set_cons_zero, List.set_cons_succ]
                refine wpAnyH_take (i := 7) (oi := { dst := some 317, op := _, type := _, pos := _, after := _, guard := _ }) (v := .bool true) rfl (by kernel_rfl) (by kernel_rfl) (by kernel_rfl) (fun _ _ _ h => h) (Or.inl ⟨by rfl, by intro w hSw; clear hSw; go_simp; (try with_reducible rfl)⟩) (by assumption) ?_
                try simp only [Act.put, List.setIfInBounds_toArray, List.set_cons_zero, List.set_cons_succ]
                refine wpAnyH_take (i := 8) (oi := { dst := some 318, op := _, type := _, pos := _, after := _, guard := _ }) (v := .bool false) rfl (by kernel_rfl) (by kernel_rfl) (by kernel_rfl) (fun _ _ _ h => h) (Or.inl ⟨by rfl, by intro w hSw; clear hSw; go_simp; (try with_reducible rfl)⟩) (by assumption) ?_
                try simp only [Act.put, List.setIfInBounds_toArray, List.set_cons_zero, List.set_cons_succ]
                refine wpAnyH_take (i := 9) (oi := { dst := some 319, op := _, type := _, pos := _, after := _, guard := _ }) (v := .bool false) rfl (by kernel_rfl) (by kernel_rfl) (by kernel_rfl) (fun _ _ _ h => h) (Or.inl ⟨by rfl, by intro w hSw; clear hSw; go_simp; (try with_reducible rfl)⟩) (by assumption) ?_
                try simp only [Act.put, List.setIfInBounds_toArray, List.set_cons_zero, List.set_cons_succ]
                refine wpAnyH_take (i := 10) (oi := { dst := some 320, op := _, type := _, pos := _, after := _, guard := _ }) (v := .bool false) rfl (by kernel_rfl) (by kernel_rfl) (by kernel_rfl) (fun _ _ _ h => h) (Or.inl ⟨by rfl, by intro w hSw; clear hSw; go_simp; (try with_reducible rfl)⟩) (by assumption) ?_
                try simp only [Act.put, List.setIfInBounds_toArray, List.set_cons_zero, List.set_cons_succ]
                refine wpAnyH_take (i := 11) (oi := { dst := some 321, op := _, type := _, pos := _, after := _, guard := _ }) (v := .agg (mk 16 FF)) rfl (by kernel_rfl) (by kernel_rfl) (by kernel_rfl) (fun _ _ _ h => h) (Or.inl ⟨by rfl, fun _ q => execB q.1 rfl rfl⟩) (by assumption) ?_
                try simp only [Act.put, List.setIfInBounds_toArray, List.set_cons_zero, List.set_cons_succ]
                refine wpAnyH_take (i := 12) (oi := { dst := some 322, op := _, type := _, pos := _, after := _, guard := _ }) (v := .agg (mk 16 FB)) rfl (by kernel_rfl) (by kernel_rfl) (by kernel_rfl) (fun _ _ _ h => h) (Or.inl ⟨by rfl, fun _ q => execB q.2.1 rfl rfl⟩) (by assumption) ?_
                try simp only [Act.put, List.setIfInBounds_toArray, List.set_cons_zero, List.set_cons_succ]
                refine wpAnyH_take (i := 13) (oi := { dst := some 323, op := _, type := _, pos := _, after := _, guard := _ }) (v := .bool false) rfl (by kernel_rfl) (by kernel_rfl) (by kernel_rfl) (fun _ _ _ h => h) (Or.inl ⟨by rfl, fun W _ => (execNB (f := FF) (g := FB) rfl rfl rfl).trans (by rw [sG]; rfl)⟩) (by assumption) ?_
                try simp only [Act.put, List.setIfInBounds_toArray, List.set_cons_zero, List.set_cons_succ]
                refine wpAnyH_take (i := 14) (oi := { dst := some 324, op := _, type := _, pos := _, after := _, guard := _ }) (v := .bool false) rfl (by kernel_rfl) (by kernel_rfl) (by kernel_rfl) (fun _ _ _ h => h) (Or.inl ⟨by rfl, by intro w hSw; clear hSw; go_simp; (try with_reducible rfl)⟩) (by assumption) ?_
                try simp only [Act.put, List.setIfInBounds_toArray, List.set_cons_zero, List.set_cons_succ]
                refine wpAnyH_take (i := 15) (oi := { dst := some 325, op := _, type := _, pos := _, after := _, guard := _ }) (v := .bool false) rfl (by kernel_rfl) (by kernel_rfl) (by kernel_rfl) (fun _ _ _ h => h) (Or.inl ⟨by rfl, by intro w hSw; clear hSw; go_simp; (try with_reducible rfl)⟩) (by assumption) ?_
                try simp only [Act.put, List.setIfInBounds_toArray, List.set_cons_zero, List.set_cons_succ]
                refine wpAnyH_take (i := 16) (oi := { dst := some 326, op := _, type := _, pos := _, after := _, guard := _ }) (v := .slice (some ⟨g5, 0, none⟩) n3 c5) rfl (by kernel_rfl) (by kernel_rfl) (by kernel_rfl) (fun _ _ _ h => h) (Or.inl ⟨by rfl, by intro w hSw; clear hSw; go_simp; (try with_reducible rfl)⟩) (by assumption) ?_
                try simp only [Act.put, List.setIfInBounds_toArray, List.set_cons_zero, List.set_cons_succ]
                refine wpAnyH_take (i := 17) (oi := { dst := some 327, op := _, type := _, pos := _, after := _, guard := _ }) (v := .int .i64 (n3 : Int)) rfl (by kernel_rfl) (by kernel_rfl) (by kernel_rfl) (fun _ _ _ h => h) (Or.inl ⟨by rfl, by intro w hSw; clear hSw; go_simp; (try with_reducible rfl)⟩) (by assumption) ?_
                try simp only [Act.put, List.setIfInBounds_toArray, List.set_cons_zero, List.set_cons_succ]
                refine wpAnyH_take (i := 18) (oi := { dst := some 328, op := _, type := _, pos := _, after := _, guard := _ }) (v := .slice (some ⟨gd, 0, none⟩) n3 cd) rfl (by kernel_rfl) (by kernel_rfl) (by kernel_rfl) (fun _ _ _ h => h) (Or.inl ⟨by rfl, by intro w hSw; clear hSw; go_simp; (try with_reducible rfl)⟩) (by assumption) ?_
                try simp only [Act.put, List.setIfInBounds_toArray, List.set_cons_zero, List.set_cons_succ]
                refine wpAnyH_take (i := 19) (oi := { dst := some 329, op := _, type := _, pos := _, after := _, guard := _ }) (v := .int .i64 (n3 : Int)) rfl (by kernel_rfl) (by kernel_rfl) (by kernel_rfl) (fun _ _ _ h => h) (Or.inl ⟨by rfl, by intro w hSw; clear hSw; go_simp; (try with_reducible rfl)⟩) (by assumption) ?_
                try simp only [Act.put, List.setIfInBounds_toArray, List.set_cons_zero, List.set_cons_succ]
                refine wpAnyH_take (i := 20) (oi := { dst := some 330, op := _, type := _, pos := _, after := _, guard := _ }) (v := .bool false) rfl (by kernel_rfl) (by kernel_rfl) (by kernel_rfl) (fun _ _ _ h => h) (Or.inl ⟨by rfl, by intro w hSw; clear hSw; go_simp; (try with_reducible rfl)⟩) (by assumption) ?_
                try simp only [Act.put, List.setIfInBounds_toArray, List.set_cons_zero, List.set_cons_succ]
                refine wpAnyH_take (i := 21) (oi := { dst := some 331, op := _, type := _, pos := _, after := _, guard := _ }) (v := .bool false) rfl (by kernel_rfl) (by kernel_rfl) (by kernel_rfl) (fun _ _ _ h => h) (Or.inl ⟨by rfl, by intro w hSw; clear hSw; go_simp; (try with_reducible rfl)⟩) (by assumption) ?_
                try simp only [Act.put, List.setIfInBounds_toArray, List.set_cons_zero, List.set_cons_succ]
                refine wpAnyH_take (i := 22) (oi := { dst := some 332, op := _, type := _, pos := _, after := _, guard := _ }) (v := .bool false) rfl (by kernel_rfl) (by kernel_rfl) (by kernel_rfl) (fun _ _ _ h => h) (Or.inl ⟨by rfl, by intro w hSw; clear hSw; go_simp; (try with_reducible rfl)⟩) (by assumption) ?_
                try simp only [Act.put, List.setIfInBounds_toArray, List.set_cons_zero, List.set_cons_succ]
                refine wpAnyH_take (i := 23) (oi := { dst := some 333, op := _, type := _, pos := _, after := _, guard := _ }) (v := .agg (mk 16 G)) rfl (by kernel_rfl) (by kernel_rfl) (by kernel_rfl) (fun _ _ _ h => h) (Or.inl ⟨by rfl, fun _ q => execB q.2.2.1 rfl rfl⟩) (by assumption) ?_
                try simp only [Act.put, List.setIfInBounds_toArray, List.set_cons_zero, List.set_cons_succ]
                refine wpAnyH_take (i := 24) (oi := { dst := some 334, op := _, type := _, pos := _, after := _, guard := _ }) (v := .agg (mk 16 f)) rfl (by kernel_rfl) (by kernel_rfl) (by kernel_rfl) (fun _ _ _ h => h) (Or.inl ⟨by rfl, fun _ q => execB q.2.2.2 rfl rfl⟩) (by assumption) ?_
                try simp only [Act.put, List.setIfInBounds_toArray, List.set_cons_zero, List.set_cons_succ]
                refine wpAnyH_take (i := 25) (oi := { dst := some 335, op := _, type := _, pos := _, after := _, guard := _ }) (v := .bool E) rfl (by kernel_rfl) (by kernel_rfl) (by kernel_rfl) (fun _ _ _ h => h) (Or.inl ⟨by rfl, fun W _ => (execEB (f := G) (g := f) rfl rfl rfl).trans (by rw [HE.out])⟩) (by assumption) ?_
                try simp only [Act.put, List.setIfInBounds_toArray, List.set_cons_zero, List.set_cons_succ]
                refine wpAnyH_take (i := 26) (oi := { dst := some 336, op := _, type := _, pos := _, after := _, guard := _ }) (v := .slice (some ⟨gs, 0, none⟩) n1 cs) rfl (by kernel_rfl) (by kernel_rfl) (by kernel_rfl) (fun _ _ _ h => h) (Or.inl ⟨by rfl, by intro w hSw; clear hSw; go_simp; (try with_reducible rfl)⟩) (by assumption) ?_
                try simp only [Act.put, List.setIfInBounds_toArray, List.set_cons_zero, List.set_cons_succ]
                refine wpAnyH_take (i := 27) (oi := { dst := some 337, op := _, type := _, pos := _, after := _, guard := _ }) (v := .int .i64 (m : Int)) rfl (by kernel_rfl) (by kernel_rfl) (by kernel_rfl) (fun _ _ _ h => h) (Or.inl ⟨by rfl, by intro w hSw; clear hSw; go_simp; (try with_reducible rfl)⟩) (by assumption) ?_
                try simp only [Act.put, List.setIfInBounds_toArray, List.set_cons_zero, List.set_cons_succ]
                refine wpAnyH_ready (rs := [28]) (by kernel_rfl) (by simp) ?_
                refine AllReadyH.cons rfl (fun K hK => ?_) AllReadyH.nil
                go_simp
                refine (vHas_any _ n1 h1 (m : Int) _ RS.out (by omega)).mono ?_
                rw [eG]
                rintro e x1 ⟨rfl, rfl⟩
                go_wp2_with fail
                refine hK.out _ _ (by assumption) (fun hHeld => ?_)
                clear hK K
                try simp only [Act.put, List.setIfInBounds_toArray, List.set_cons_zero, List.set_cons_succ]
                refine wpAnyH_take (i := 29) (oi := { dst := some 339, op := _, type := _, pos := _, after := _, guard := _ }) (v := .bool false) rfl (by kernel_rfl) (by kernel_rfl) (by kernel_rfl) (fun _ _ _ h => h) (Or.inl ⟨by rfl, by intro w hSw; clear hSw; go_simp; (try with_reducible rfl)⟩) (by assumption) ?_
                try simp only [Act.put, List.setIfInBounds_toArray, List.set_cons_zero, List.set_cons_succ]
                refine wpAnyH_take (i := 30) (oi := { dst := some 340, op := _, type := _, pos := _, after := _, guard := _ }) (v := .bool false) rfl (by kernel_rfl) (by kernel_rfl) (by kernel_rfl) (fun _ _ _ h => h) (Or.inl ⟨by rfl, by intro w hSw; clear hSw; go_simp; (try with_reducible rfl)⟩) (by assumption) ?_
                try simp only [Act.put, List.setIfInBounds_toArray, List.set_cons_zero, List.set_cons_succ]
                refine wpAnyH_take (i := 31) (oi := { dst := some 341, op := _, type := _, pos := _, after := _, guard := _ }) (v := .bool false) rfl (by kernel_rfl) (by kernel_rfl) (by kernel_rfl) (fun _ _ _ h => h) (Or.inl ⟨by rfl, by intro w hSw; clear hSw; go_simp; (try with_reducible rfl)⟩) (by assumption) ?_
                try simp only [Act.put, List.setIfInBounds_toArray, List.set_cons_zero, List.set_cons_succ]
                refine wpAnyH_take (i := 32) (oi := { dst := some 342, op := _, type := _, pos := _, after := _, guard := _ }) (v := .agg (mk 16 G)) rfl (by kernel_rfl) (by kernel_rfl) (by kernel_rfl) (fun _ _ _ h => h) (Or.inl ⟨by rfl, fun _ q => execB q.2.2.1 rfl rfl⟩) (by assumption) ?_
                try simp only [Act.put, List.setIfInBounds_toArray, List.set_cons_zero, List.set_cons_succ]
                refine wpAnyH_take (i := 33) (oi := { dst := some 343, op := _, type := _, pos := _, after := _, guard := _ }) (v := .agg (mk 16 FB)) rfl (by kernel_rfl) (by kernel_rfl) (by kernel_rfl) (fun _ _ _ h => h) (Or.inl ⟨by rfl, fun _ q => execB q.2.1 rfl rfl⟩) (by assumption) ?_
                try simp only [Act.put, List.setIfInBounds_toArray, List.set_cons_zero, List.set_cons_succ]
                refine wpAnyH_take (i := 34) (oi := { dst := some 344, op := _, type := _, pos := _, after := _, guard := _ }) (v := .bool true) rfl (by kernel_rfl) (by kernel_rfl) (by kernel_rfl) (fun _ _ _ h => h) (Or.inl ⟨by rfl, fun W _ => (execEB (f := G) (g := FB) rfl rfl rfl).trans (by rw [HP.out])⟩) (by assumption) ?_
                try simp only [Act.put, List.setIfInBounds_toArray, List.set_cons_zero, List.set_cons_succ]
                refine wpAnyH_take (i := 35) (oi := { dst := some 345, op := _, type := _, pos := _, after := _, guard := _ }) (v := .bool true) rfl (by kernel_rfl) (by kernel_rfl) (by kernel_rfl) (fun _ _ _ h => h) (Or.inl ⟨by rfl, by intro w hSw; clear hSw; go_simp; (try with_reducible rfl)⟩) (by assumption) ?_
                try simp only [Act.put, List.setIfInBounds_toArray, List.set_cons_zero, List.set_cons_succ]
                refine wpAnyH_take (i := 36) (oi := { dst := some 346, op := _, type := _, pos := _, after := _, guard := _ }) (v := .int .i64 (m : Int)) rfl (by kernel_rfl) (by kernel_rfl) (by kernel_rfl) (fun _ _ _ h => h) (Or.inl ⟨by rfl, by intro w hSw; clear hSw; go_simp; (try with_reducible rfl)⟩) (by assumption) ?_
                try simp only [Act.put, List.setIfInBounds_toArray, List.set_cons_zero, List.set_cons_succ]
                refine wpAnyH_take (i := 37) (oi := { dst := some 347, op := _, type := _, pos := _, after := _, guard := _ }) (v := .int .i64 FN) rfl (by kernel_rfl) (by kernel_rfl) (by kernel_rfl) (fun _ _ _ h => h) (Or.inl ⟨by rfl, by intro w hSw; clear hSw; go_simp; (try with_reducible rfl)⟩) (by assumption) ?_
                try simp only [Act.put, List.setIfInBounds_toArray, List.set_cons_zero, List.set_cons_succ]
                refine wpAnyH_take (i := 38) (oi := { dst := some 348, op := _, type := _, pos := _, after := _, guard := _ }) (v := .bool false) rfl (by kernel_rfl) (by kernel_rfl) (by kernel_rfl) (fun _ _ _ h => h) (Or.inl ⟨by rfl, by intro w hSw; clear hSw; go_simp; (try with_reducible rfl)⟩) (by assumption) ?_
                try simp only [Act.put, List.setIfInBounds_toArray, List.set_cons_zero, List.set_cons_succ]
                refine wpAnyH_take (i := 39) (oi := { dst := some 349, op := _, type := _, pos := _, after := _, guard := _ }) (v := .bool false) rfl (by kernel_rfl) (by kernel_rfl) (by kernel_rfl) (fun _ _ _ h => h) (Or.inl ⟨by rfl, by intro w hSw; clear hSw; go_simp; (try with_reducible rfl)⟩) (by assumption) ?_
                try simp only [Act.put, List.setIfInBounds_toArray, List.set_cons_zero, List.set_cons_succ]
                refine wpAnyH_take (i := 40) (oi := { dst := some 350, op := _, type := _, pos := _, after := _, guard := _ }) (v := .bool false) rfl (by kernel_rfl) (by kernel_rfl) (by kernel_rfl) (fun _ _ _ h => h) (Or.inl ⟨by rfl, by intro w hSw; clear hSw; go_simp; (try with_reducible rfl)⟩) (by assumption) ?_
                try simp only [Act.put, List.setIfInBounds_toArray, List.set_cons_zero, List.set_cons_succ]
                refine wpAnyH_done (by kernel_rfl) ?_ _
                clear hHeld
                clear K41 K43
                go_wp2_with fail
                go_roundg gk2
                case rel => exact ⟨m + 1, by omega, by go_num, K3, K4, RS, HB⟩
                case measure => omega
              | false =>
                have HP := Lib.hid hP
                clear hP
                replace K3 := K3.drew
                replace K4 := K4.drew
                replace K41 := K41.drew
                replace K43 := K43.drew
                replace RS : Hid (IRow w22.drew (.slice (some ⟨gs, 0, none⟩) n1 cs) n1 h1) := RS.out
                replace HB : Hid (Below w.heap.size w w22.drew) := HB.out.drew
                refine wp_region_held_drew (S := fun W => Blk W b43 16 FF 27 ∧ Blk W b4 16 FB 27 ∧ Blk W b41 16 G 27 ∧ Blk W b3 16 f 27) (by kernel_rfl) (⟨K43, K4, K41, K3⟩) (fun hHeld => ?_)
                generalize w22.drew = x0 at *
                refine wpAnyH_take (i := 0) (oi := { dst := some 310, op := _, type := _, pos := _, after := _, guard := _ }) (v := .bool true) rfl (by kernel_rfl) (by kernel_rfl) (by kernel_rfl) (fun _ _ _ h => h) (Or.inl ⟨by rfl, by intro w hSw; clear hSw; go_simp; (try with_reducible rfl)⟩) (by assumption) ?_
                try simp only [Act.put, List.setIfInBounds_toArray, List.set_cons_zero, List.set_cons_succ]
                refine wpAnyH_take (i := 1) (oi := { dst := some 311, op := _, type := _, pos := _, after := _, guard := _ }) (v := .bool false) rfl (by kernel_rfl) (by kernel_rfl) (by kernel_rfl) (fun _ _ _ h => h) (Or.inl ⟨by rfl, by intro w hSw; clear hSw; go_simp; (try with_reducible rfl)⟩) (by assumption) ?_
                try simp only [Act.put, List.setIfInBounds_toArray, List.set_cons_zero, List.set_cons_succ]
                refine wpAnyH_take (i := 2) (oi := { dst := some 312, op := _, type := _, pos := _, after := _, guard := _ }) (v := .bool false) rfl (by kernel_rfl) (by kernel_rfl) (by kernel_rfl) (fun _ _ _ h => h) (Or.inl ⟨by rfl, by intro w hSw; clear hSw; go_simp; (try with_reducible rfl)⟩) (by assumption) ?_
                try simp only [Act.put, List.setIfInBounds_toArray, List.set_cons_zero, List.set_cons_succ]
                refine wpAnyH_take (i := 3) (oi := { dst := some 313, op := _, type := _, pos := _, after := _, guard := _ }) (v := .bool true) rfl (by kernel_rfl) (by kernel_rfl) (by kernel_rfl) (fun _ _ _ h => h) (Or.inl ⟨by rfl, by intro w hSw; clear hSw; go_simp; (try with_reducible rfl)⟩) (by assumption) ?_
                try simp only [Act.put, List.setIfInBounds_toArray, List.set_cons_zero, List.set_cons_succ]
                refine wpAnyH_take (i := 4) (oi := { dst := some 314, op := _, type := _, pos := _, after := _, guard := _ }) (v := .bool false) rfl (by kernel_rfl) (by kernel_rfl) (by kernel_rfl) (fun _ _ _ h => h) (Or.inl ⟨by rfl, by intro w hSw; clear hSw; go_simp; (try with_reducible rfl)⟩) (by assumption) ?_
                try simp only [Act.put, List.setIfInBounds_toArray, List.set_cons_zero, List.set_cons_succ]
                refine wpAnyH_take (i := 5) (oi := { dst := some 315, op := _, type := _, pos := _, after := _, guard := _ }) (v := .bool false) rfl (by kernel_rfl) (by kernel_rfl) (by kernel_rfl) (fun _ _ _ h => h) (Or.inl ⟨by rfl, by intro w hSw; clear hSw; go_simp; (try with_reducible rfl)⟩) (by assumption) ?_
                try simp only [Act.put, List.setIfInBounds_toArray, List.set_cons_zero, List.set_cons_succ]
                refine wpAnyH_take (i := 6) (oi := { dst := some 316, op := _, type := _, pos := _, after := _, guard := _ }) (v := .bool false) rfl (by kernel_rfl) (by kernel_rfl) (by kernel_rfl) (fun _ _ _ h => h) (Or.inl ⟨by rfl, by intro w hSw; clear hSw; go_simp; (try with_reducible rfl)⟩) (by assumption) ?_
                try simp only [Act.put, List.setIfInBounds_toArray, List.set_cons_zero, List.set_cons_succ]
                refine wpAnyH_take (i := 7) (oi := { dst := some 317, op := _, type := _, pos := _, after := _, guard := _ }) (v := .bool true) rfl (by kernel_rfl) (by kernel_rfl) (by kernel_rfl) (fun _ _ _ h => h) (Or.inl ⟨by rfl, by intro w hSw; clear hSw; go_simp; (try with_reducible rfl)⟩) (by assumption) ?_
                try simp only [Act.put, List.setIfInBounds_toArray, List.set_cons_zero, List.set_cons_succ]
                refine wpAnyH_take (i := 8) (oi := { dst := some 318, op := _, type := _, pos := _, after := _, guard := _ }) (v := .bool false) rfl (by kernel_rfl) (by kernel_rfl) (by kernel_rfl) (fun _ _ _ h => h) (Or.inl ⟨by rfl, by intro w hSw; clear hSw; go_simp; (try with_reducible rfl)⟩) (by assumption) ?_
                try simp only [Act.put, List.setIfInBounds_toArray, List.set_cons_zero, List.set_cons_succ]
                refine wpAnyH_take (i := 9) (oi := { dst := some 319, op := _, type := _, pos := _, after := _, guard := _ }) (v := .bool false) rfl (by kernel_rfl) (by kernel_rfl) (by kernel_rfl) (fun _ _ _ h => h) (Or.inl ⟨by rfl, by intro w hSw; clear hSw; go_simp; (try with_reducible rfl)⟩) (by assumption) ?_
                try simp only [Act.put, List.setIfInBounds_toArray, List.set_cons_zero, List.set_cons_succ]
                refine wpAnyH_take (i := 10) (oi := { dst := some 320, op := _, type := _, pos := _, after := _, guard := _ }) (v := .bool false) rfl (by kernel_rfl) (by kernel_rfl) (by kernel_rfl) (fun _ _ _ h => h) (Or.inl ⟨by rfl, by intro w hSw; clear hSw; go_simp; (try with_reducible rfl)⟩) (by assumption) ?_
                try simp only [Act.put, List.setIfInBounds_toArray, List.set_cons_zero, List.set_cons_succ]
                refine wpAnyH_take (i := 11) (oi := { dst := some 321, op := _, type := _, pos := _, after := _, guard := _ }) (v := .agg (mk 16 FF)) rfl (by kernel_rfl) (by kernel_rfl) (by kernel_rfl) (fun _ _ _ h => h) (Or.inl ⟨by rfl, fun _ q => execB q.1 rfl rfl⟩) (by assumption) ?_
                try simp only [Act.put, List.setIfInBounds_toArray, List.set_cons_zero, List.set_cons_succ]
                refine wpAnyH_take (i := 12) (oi := { dst := some 322, op := _, type := _, pos := _, after := _, guard := _ }) (v := .agg (mk 16 FB)) rfl (by kernel_rfl) (by kernel_rfl) (by kernel_rfl) (fun _ _ _ h => h) (Or.inl ⟨by rfl, fun _ q => execB q.2.1 rfl rfl⟩) (by assumption) ?_
                try simp only [Act.put, List.setIfInBounds_toArray, List.set_cons_zero, List.set_cons_succ]
                refine wpAnyH_take (i := 13) (oi := { dst := some 323, op := _, type := _, pos := _, after := _, guard := _ }) (v := .bool false) rfl (by kernel_rfl) (by kernel_rfl) (by kernel_rfl) (fun _ _ _ h => h) (Or.inl ⟨by rfl, fun W _ => (execNB (f := FF) (g := FB) rfl rfl rfl).trans (by rw [sG]; rfl)⟩) (by assumption) ?_
                try simp only [Act.put, List.setIfInBounds_toArray, List.set_cons_zero, List.set_cons_succ]
                refine wpAnyH_take (i := 14) (oi := { dst := some 324, op := _, type := _, pos := _, after := _, guard := _ }) (v := .bool false) rfl (by kernel_rfl) (by kernel_rfl) (by kernel_rfl) (fun _ _ _ h => h) (Or.inl ⟨by rfl, by intro w hSw; clear hSw; go_simp; (try with_reducible rfl)⟩) (by assumption) ?_
                try simp only [Act.put, List.setIfInBounds_toArray, List.set_cons_zero, List.set_cons_succ]
                refine wpAnyH_take (i := 15) (oi := { dst := some 325, op := _, type := _, pos := _, after := _, guard := _ }) (v := .bool false) rfl (by kernel_rfl) (by kernel_rfl) (by kernel_rfl) (fun _ _ _ h => h) (Or.inl ⟨by rfl, by intro w hSw; clear hSw; go_simp; (try with_reducible rfl)⟩) (by assumption) ?_
                try simp only [Act.put, List.setIfInBounds_toArray, List.set_cons_zero, List.set_cons_succ]
                refine wpAnyH_take (i := 16) (oi := { dst := some 326, op := _, type := _, pos := _, after := _, guard := _ }) (v := .slice (some ⟨g5, 0, none⟩) n3 c5) rfl (by kernel_rfl) (by kernel_rfl) (by kernel_rfl) (fun _ _ _ h => h) (Or.inl ⟨by rfl, by intro w hSw; clear hSw; go_simp; (try with_reducible rfl)⟩) (by assumption) ?_
                try simp only [Act.put, List.setIfInBounds_toArray, List.set_cons_zero, List.set_cons_succ]
                refine wpAnyH_take (i := 17) (oi := { dst := some 327, op := _, type := _, pos := _, after := _, guard := _ }) (v := .int .i64 (n3 : Int)) rfl (by kernel_rfl) (by kernel_rfl) (by kernel_rfl) (fun _ _ _ h => h) (Or.inl ⟨by rfl, by intro w hSw; clear hSw; go_simp; (try with_reducible rfl)⟩) (by assumption) ?_
                try simp only [Act.put, List.setIfInBounds_toArray, List.set_cons_zero, List.set_cons_succ]
                refine wpAnyH_take (i := 18) (oi := { dst := some 328, op := _, type := _, pos := _, after := _, guard := _ }) (v := .slice (some ⟨gd, 0, none⟩) n3 cd) rfl (by kernel_rfl) (by kernel_rfl) (by kernel_rfl) (fun _ _ _ h => h) (Or.inl ⟨by rfl, by intro w hSw; clear hSw; go_simp; (try with_reducible rfl)⟩) (by assumption) ?_
                try simp only [Act.put, List.setIfInBounds_toArray, List.set_cons_zero, List.set_cons_succ]
                refine wpAnyH_take (i := 19) (oi := { dst := some 329, op := _, type := _, pos := _, after := _, guard := _ }) (v := .int .i64 (n3 : Int)) rfl (by kernel_rfl) (by kernel_rfl) (by kernel_rfl) (fun _ _ _ h => h) (Or.inl ⟨by rfl, by intro w hSw; clear hSw; go_simp; (try with_reducible rfl)⟩) (by assumption) ?_
                try simp only [Act.put, List.setIfInBounds_toArray, List.set_cons_zero, List.set_cons_succ]
                refine wpAnyH_take (i := 20) (oi := { dst := some 330, op := _, type := _, pos := _, after := _, guard := _ }) (v := .bool false) rfl (by kernel_rfl) (by kernel_rfl) (by kernel_rfl) (fun _ _ _ h => h) (Or.inl ⟨by rfl, by intro w hSw; clear hSw; go_simp; (try with_reducible rfl)⟩) (by assumption) ?_
                try simp only [Act.put, List.setIfInBounds_toArray, List.set_cons_zero, List.set_cons_succ]
                refine wpAnyH_take (i := 21) (oi := { dst := some 331, op := _, type := _, pos := _, after := _, guard := _ }) (v := .bool false) rfl (by kernel_rfl) (by kernel_rfl) (by kernel_rfl) (fun _ _ _ h => h) (Or.inl ⟨by rfl, by intro w hSw; clear hSw; go_simp; (try with_reducible rfl)⟩) (by assumption) ?_
                try simp only [Act.put, List.setIfInBounds_toArray, List.set_cons_zero, List.set_cons_succ]
                refine wpAnyH_take (i := 22) (oi := { dst := some 332, op := _, type := _, pos := _, after := _, guard := _ }) (v := .bool false) rfl (by kernel_rfl) (by kernel_rfl) (by kernel_rfl) (fun _ _ _ h => h) (Or.inl ⟨by rfl, by intro w hSw; clear hSw; go_simp; (try with_reducible rfl)⟩) (by assumption) ?_
                try simp only [Act.put, List.setIfInBounds_toArray, List.set_cons_zero, List.set_cons_succ]
                refine wpAnyH_take (i := 23) (oi := { dst := some 333, op := _, type := _, pos := _, after := _, guard := _ }) (v := .agg (mk 16 G)) rfl (by kernel_rfl) (by kernel_rfl) (by kernel_rfl) (fun _ _ _ h => h) (Or.inl ⟨by rfl, fun _ q => execB q.2.2.1 rfl rfl⟩) (by assumption) ?_
                try simp only [Act.put, List.setIfInBounds_toArray, List.set_cons_zero, List.set_cons_succ]
                refine wpAnyH_take (i := 24) (oi := { dst := some 334, op := _, type := _, pos := _, after := _, guard := _ }) (v := .agg (mk 16 f)) rfl (by kernel_rfl) (by kernel_rfl) (by kernel_rfl) (fun _ _ _ h => h) (Or.inl ⟨by rfl, fun _ q => execB q.2.2.2 rfl rfl⟩) (by assumption) ?_
                try simp only [Act.put, List.setIfInBounds_toArray, List.set_cons_zero, List.set_cons_succ]
                refine wpAnyH_take (i := 25) (oi := { dst := some 335, op := _, type := _, pos := _, after := _, guard := _ }) (v := .bool E) rfl (by kernel_rfl) (by kernel_rfl) (by kernel_rfl) (fun _ _ _ h => h) (Or.inl ⟨by rfl, fun W _ => (execEB (f := G) (g := f) rfl rfl rfl).trans (by rw [HE.out])⟩) (by assumption) ?_
                try simp only [Act.put, List.setIfInBounds_toArray, List.set_cons_zero, List.set_cons_succ]
                refine wpAnyH_take (i := 26) (oi := { dst := some 336, op := _, type := _, pos := _, after := _, guard := _ }) (v := .slice (some ⟨gs, 0, none⟩) n1 cs) rfl (by kernel_rfl) (by kernel_rfl) (by kernel_rfl) (fun _ _ _ h => h) (Or.inl ⟨by rfl, by intro w hSw; clear hSw; go_simp; (try with_reducible rfl)⟩) (by assumption) ?_
                try simp only [Act.put, List.setIfInBounds_toArray, List.set_cons_zero, List.set_cons_succ]
                refine wpAnyH_take (i := 27) (oi := { dst := some 337, op := _, type := _, pos := _, after := _, guard := _ }) (v := .int .i64 (m : Int)) rfl (by kernel_rfl) (by kernel_rfl) (by kernel_rfl) (fun _ _ _ h => h) (Or.inl ⟨by rfl, by intro w hSw; clear hSw; go_simp; (try with_reducible rfl)⟩) (by assumption) ?_
                try simp only [Act.put, List.setIfInBounds_toArray, List.set_cons_zero, List.set_cons_succ]
                refine wpAnyH_ready (rs := [28]) (by kernel_rfl) (by simp) ?_
                refine AllReadyH.cons rfl (fun K hK => ?_) AllReadyH.nil
                go_simp
                refine (vHas_any _ n1 h1 (m : Int) _ RS.out (by omega)).mono ?_
                rw [eG]
                rintro e x1 ⟨rfl, rfl⟩
                go_wp2_with fail
                refine hK.out _ _ (by assumption) (fun hHeld => ?_)
                clear hK K
                try simp only [Act.put, List.setIfInBounds_toArray, List.set_cons_zero, List.set_cons_succ]
                refine wpAnyH_take (i := 29) (oi := { dst := some 339, op := _, type := _, pos := _, after := _, guard := _ }) (v := .bool false) rfl (by kernel_rfl) (by kernel_rfl) (by kernel_rfl) (fun _ _ _ h => h) (Or.inl ⟨by rfl, by intro w hSw; clear hSw; go_simp; (try with_reducible rfl)⟩) (by assumption) ?_
                try simp only [Act.put, List.setIfInBounds_toArray, List.set_cons_zero, List.set_cons_succ]
                refine wpAnyH_take (i := 30) (oi := { dst := some 340, op := _, type := _, pos := _, after := _, guard := _ }) (v := .bool false) rfl (by kernel_rfl) (by kernel_rfl) (by kernel_rfl) (fun _ _ _ h => h) (Or.inl ⟨by rfl, by intro w hSw; clear hSw; go_simp; (try with_reducible rfl)⟩) (by assumption) ?_
                try simp only [Act.put, List.setIfInBounds_toArray, List.set_cons_zero, List.set_cons_succ]
                refine wpAnyH_take (i := 31) (oi := { dst := some 341, op := _, type := _, pos := _, after := _, guard := _ }) (v := .bool false) rfl (by kernel_rfl) (by kernel_rfl) (by kernel_rfl) (fun _ _ _ h => h) (Or.inl ⟨by rfl, by intro w hSw; clear hSw; go_simp; (try with_reducible rfl)⟩) (by assumption) ?_
                try simp only [Act.put, List.setIfInBounds_toArray, List.set_cons_zero, List.set_cons_succ]
                refine wpAnyH_take (i := 32) (oi := { dst := some 342, op := _, type := _, pos := _, after := _, guard := _ }) (v := .agg (mk 16 G)) rfl (by kernel_rfl) (by kernel_rfl) (by kernel_rfl) (fun _ _ _ h => h) (Or.inl ⟨by rfl, fun _ q => execB q.2.2.1 rfl rfl⟩) (by assumption) ?_
                try simp only [Act.put, List.setIfInBounds_toArray, List.set_cons_zero, List.set_cons_succ]
                refine wpAnyH_take (i := 33) (oi := { dst := some 343, op := _, type := _, pos := _, after := _, guard := _ }) (v := .agg (mk 16 FB)) rfl (by kernel_rfl) (by kernel_rfl) (by kernel_rfl) (fun _ _ _ h => h) (Or.inl ⟨by rfl, fun _ q => execB q.2.1 rfl rfl⟩) (by assumption) ?_
                try simp only [Act.put, List.setIfInBounds_toArray, List.set_cons_zero, List.set_cons_succ]
                refine wpAnyH_take (i := 34) (oi := { dst := some 344, op := _, type := _, pos := _, after := _, guard := _ }) (v := .bool false) rfl (by kernel_rfl) (by kernel_rfl) (by kernel_rfl) (fun _ _ _ h => h) (Or.inl ⟨by rfl, fun W _ => (execEB (f := G) (g := FB) rfl rfl rfl).trans (by rw [HP.out])⟩) (by assumption) ?_
                try simp only [Act.put, List.setIfInBounds_toArray, List.set_cons_zero, List.set_cons_succ]
                refine wpAnyH_take (i := 35) (oi := { dst := some 345, op := _, type := _, pos := _, after := _, guard := _ }) (v := .bool false) rfl (by kernel_rfl) (by kernel_rfl) (by kernel_rfl) (fun _ _ _ h => h) (Or.inl ⟨by rfl, by intro w hSw; clear hSw; go_simp; (try with_reducible rfl)⟩) (by assumption) ?_
                try simp only [Act.put, List.setIfInBounds_toArray, List.set_cons_zero, List.set_cons_succ]
                refine wpAnyH_take (i := 36) (oi := { dst := some 346, op := _, type := _, pos := _, after := _, guard := _ }) (v := undef) rfl (by kernel_rfl) (by kernel_rfl) (by kernel_rfl) (fun _ _ _ h => h) (Or.inr ⟨by rfl, rfl⟩) (by assumption) ?_
                try simp only [Act.put, List.setIfInBounds_toArray, List.set_cons_zero, List.set_cons_succ]
                refine wpAnyH_take (i := 37) (oi := { dst := some 347, op := _, type := _, pos := _, after := _, guard := _ }) (v := undef) rfl (by kernel_rfl) (by kernel_rfl) (by kernel_rfl) (fun _ _ _ h => h) (Or.inr ⟨by rfl, rfl⟩) (by assumption) ?_
                try simp only [Act.put, List.setIfInBounds_toArray, List.set_cons_zero, List.set_cons_succ]
                refine wpAnyH_take (i := 38) (oi := { dst := some 348, op := _, type := _, pos := _, after := _, guard := _ }) (v := undef) rfl (by kernel_rfl) (by kernel_rfl) (by kernel_rfl) (fun _ _ _ h => h) (Or.inr ⟨by rfl, rfl⟩) (by assumption) ?_
                try simp only [Act.put, List.setIfInBounds_toArray, List.set_cons_zero, List.set_cons_succ]
                refine wpAnyH_take (i := 39) (oi := { dst := some 349, op := _, type := _, pos := _, after := _, guard := _ }) (v := .bool false) rfl (by kernel_rfl) (by kernel_rfl) (by kernel_rfl) (fun _ _ _ h => h) (Or.inl ⟨by rfl, by intro w hSw; clear hSw; go_simp; (try with_reducible rfl)⟩) (by assumption) ?_
                try simp only [Act.put, List.setIfInBounds_toArray, List.set_cons_zero, List.set_cons_succ]
                refine wpAnyH_take (i := 40) (oi := { dst := some 350, op := _, type := _, pos := _, after := _, guard := _ }) (v := .bool false) rfl (by kernel_rfl) (by kernel_rfl) (by kernel_rfl) (fun _ _ _ h => h) (Or.inl ⟨by rfl, by intro w hSw; clear hSw; go_simp; (try with_reducible rfl)⟩) (by assumption) ?_
                try simp only [Act.put, List.setIfInBounds_toArray, List.set_cons_zero, List.set_cons_succ]
                refine wpAnyH_done (by kernel_rfl) ?_ _
                clear hHeld
                clear K41 K43
                go_wp2_with fail
                go_roundg gk2
                case rel => exact ⟨m + 1, by omega, by go_num, K3, K4, RS, HB⟩
                case measure => omega
    · as_aux_lemma =>
        have hVO : vdO f = false := vdO_no hV
        obtain ⟨FB, hFB⟩ : ∃ F, F = fstRB f := ⟨_, rfl⟩
        obtain ⟨FN, hFN⟩ : ∃ F, F = fstRN f := ⟨_, rfl⟩
        obtain ⟨CM, hCM⟩ : ∃ F, F = cfmR f := ⟨_, rfl⟩
        obtain ⟨n1, hn1⟩ : ∃ F, F = (symR f).length := ⟨_, rfl⟩
        obtain ⟨h1, hh1⟩ : ∃ F, F = (fun i => (symR f).getD i 0) := ⟨_, rfl⟩
        obtain ⟨n2, hn2⟩ : ∃ F, F = (foR f).length := ⟨_, rfl⟩
        obtain ⟨h2, hh2⟩ : ∃ F, F = flatF (foR f) := ⟨_, rfl⟩
        obtain ⟨n3, hn3⟩ : ∃ F, F = (dmR f).length := ⟨_, rfl⟩
        obtain ⟨h3, hh3⟩ : ∃ F, F = (fun i => (dmR f).getD i 0) := ⟨_, rfl⟩
        obtain ⟨n4, hn4⟩ : ∃ F, F = (movR f).length := ⟨_, rfl⟩
        obtain ⟨h4, hh4⟩ : ∃ F, F = (fun i => (movR f).getD i 0) := ⟨_, rfl⟩
        have iFF : Hid (∀ W, Calls Try.prog 13 #[.agg (mk 16 f)] W fun e w' => e = .returned (.tuple #[.agg (mk 16 FB), .int .i64 FN, .bool false]) ∧ Below W.heap.size W w') := by show ∀ W, _; rw [hFB, hFN, ← hVO]; exact implFirst_any f
        have iCF : Hid (∀ W, Calls Try.prog 17 #[.agg (mk 16 f)] W fun e w' => e = .returned (.tuple #[.int .i64 CM, .bool false]) ∧ Below W.heap.size W w') := by show ∀ W, _; rw [hCM, ← hVO]; exact implCount8_any f
        have iSY : Hid (∀ W, Calls Try.prog 15 #[.agg (mk 16 f)] W fun e w' => ∃ g c, e = .returned (.tuple #[.slice (some ⟨g, 0, none⟩) n1 c, .bool false]) ∧ IRow w' (.slice (some ⟨g, 0, none⟩) n1 c) n1 h1 ∧ Below W.heap.size W w') := by show ∀ W, _; intro W; rw [hn1, hh1, ← hVO]; exact (implSym_any f W).mono fun e w' ⟨g, c, q1, q2, q3⟩ => ⟨g, c, q1, irow_of q2, q3⟩
        have iFO : Hid (∀ W, Calls Try.prog 19 #[.agg (mk 16 f)] W fun e w' => ∃ g c, e = .returned (.tuple #[.slice (some ⟨g, 0, none⟩) n2 c, .bool false]) ∧ KRow 16 w' (.slice (some ⟨g, 0, none⟩) n2 c) n2 h2 ∧ Below W.heap.size W w') := by show ∀ W, _; intro W; rw [hn2, hh2, ← hVO]; exact (implFormsOf_any f W).mono fun e w' ⟨g, c, q1, q2, q3⟩ => ⟨g, c, q1, KRow.of_list (foR_len f) q2, q3⟩
        have iDM : Hid (∀ W, Calls Try.prog 21 #[.agg (mk 16 f)] W fun e w' => ∃ g c, e = .returned (.tuple #[.slice (some ⟨g, 0, none⟩) n3 c, .bool false]) ∧ IRow w' (.slice (some ⟨g, 0, none⟩) n3 c) n3 h3 ∧ Below W.heap.size W w') := by show ∀ W, _; intro W; rw [hn3, hh3, ← hVO]; exact (implDist_any f W).mono fun e w' ⟨g, c, q1, q2, q3⟩ => ⟨g, c, q1, irow_of q2, q3⟩
        have sFF : Hid (∀ W, Calls Try.prog 14 #[.agg (mk 16 f)] W fun e w' => e = .returned (.tuple #[.agg (mk 16 FB), .int .i64 FN, .bool false]) ∧ Below W.heap.size W w') := by show ∀ W, _; rw [hFB, hFN, ← hVO]; exact specFirst_any f
        have sCF : Hid (∀ W, Calls Try.prog 18 #[.agg (mk 16 f)] W fun e w' => e = .returned (.tuple #[.int .i64 CM, .bool false]) ∧ Below W.heap.size W w') := by show ∀ W, _; rw [hCM, ← hVO]; exact specCount8_any f
        have sSY : Hid (∀ W, Calls Try.prog 16 #[.agg (mk 16 f)] W fun e w' => ∃ g c, e = .returned (.tuple #[.slice (some ⟨g, 0, none⟩) n1 c, .bool false]) ∧ IRow w' (.slice (some ⟨g, 0, none⟩) n1 c) n1 h1 ∧ Below W.heap.size W w') := by show ∀ W, _; intro W; rw [hn1, hh1, ← hVO]; exact (specSym_any f W).mono fun e w' ⟨g, c, q1, q2, q3⟩ => ⟨g, c, q1, irow_of q2, q3⟩
        have sFO : Hid (∀ W, Calls Try.prog 20 #[.agg (mk 16 f)] W fun e w' => ∃ g c, e = .returned (.tuple #[.slice (some ⟨g, 0, none⟩) n2 c, .bool false]) ∧ KRow 16 w' (.slice (some ⟨g, 0, none⟩) n2 c) n2 h2 ∧ Below W.heap.size W w') := by show ∀ W, _; intro W; rw [hn2, hh2, ← hVO]; exact (specFormsOf_any f W).mono fun e w' ⟨g, c, q1, q2, q3⟩ => ⟨g, c, q1, KRow.of_list (foR_len f) q2, q3⟩
        have sDM : Hid (∀ W, Calls Try.prog 22 #[.agg (mk 16 f)] W fun e w' => ∃ g c, e = .returned (.tuple #[.slice (some ⟨g, 0, none⟩) n3 c, .bool false]) ∧ IRow w' (.slice (some ⟨g, 0, none⟩) n3 c) n3 h3 ∧ Below W.heap.size W w') := by show ∀ W, _; intro W; rw [hn3, hh3, ← hVO]; exact (specDist_any f W).mono fun e w' ⟨g, c, q1, q2, q3⟩ => ⟨g, c, q1, irow_of q2, q3⟩
        have l1 : n1 ≤ 8 := by rw [hn1]; exact symR_le f
        have l2 : n2 ≤ 8 := by rw [hn2]; exact foR_le f
        have l3 : n3 ≤ 4 := by rw [hn3]; exact dmR_le f
        clear hFB hFN hCM hn1 hh1 hn2 hh2 hn3 hh3 hn4 hh4 hV hVO
        have iE := fun (F G : Nat → Int) (W : World) => eqB 9996 F G W
        have s1 : sameB FB FB = true := sameB_iff.2 fun _ _ => rfl
        go_wp2_with (first | ((with_reducible show wpList _ _ _ (Oper.mk _ (Op.load 27 _) _ _ _ _ :: _) _ _); refine loadB (K3) rfl rfl rfl ?_) | ((with_reducible show wpList _ _ _ (Oper.mk _ (Op.load 27 _) _ _ _ (some _) :: _) _ _); refine loadgB (K3) rfl rfl rfl ?_))
        generalize w1.alloc (.cells (mk 16 f) 27) = w1a at *
        refine (iFF.out _).mono ?_
        rintro e w2 ⟨rfl, hb⟩
        replace K3 := K3.below hb K3.lt
        replace HB : Hid (Below w.heap.size w w2) := HB.out.trans (hb.mono HB.out.size)
        clear hb
        replace K3 := K3.alloc (.cells (mk 16 FB) 27)
        have K4 := Blk.new w2 16 FB 27
        replace HB : Hid (Below w.heap.size w (w2.alloc (.cells (mk 16 FB) 27))) := HB.out.alloc HB.out.size _
        go_wp2_with (first | ((with_reducible show wpList _ _ _ (Oper.mk _ (Op.load 27 _) _ _ _ _ :: _) _ _); refine loadB (K3) rfl rfl rfl ?_) | ((with_reducible show wpList _ _ _ (Oper.mk _ (Op.load 27 _) _ _ _ (some _) :: _) _ _); refine loadgB (K3) rfl rfl rfl ?_))
        generalize w2.alloc (.cells (mk 16 FB) 27) = w2a at *
        refine (sFF.out _).mono ?_
        rintro e w3 ⟨rfl, hb⟩
        replace K3 := K3.below hb K3.lt
        replace K4 := K4.below hb K4.lt
        replace HB : Hid (Below w.heap.size w w3) := HB.out.trans (hb.mono HB.out.size)
        clear hb
        replace K3 := K3.alloc (.cells (mk 16 FB) 27)
        replace K4 := K4.alloc (.cells (mk 16 FB) 27)
        have K7 := Blk.new w3 16 FB 27
        replace HB : Hid (Below w.heap.size w (w3.alloc (.cells (mk 16 FB) 27))) := HB.out.alloc HB.out.size _
        go_wp2_with (first | ((with_reducible show wpList _ _ _ (Oper.mk _ (Op.load 27 _) _ _ _ _ :: _) _ _); refine loadB (K3) rfl rfl rfl ?_) | ((with_reducible show wpList _ _ _ (Oper.mk _ (Op.load 27 _) _ _ _ (some _) :: _) _ _); refine loadgB (K3) rfl rfl rfl ?_))
        generalize w3.alloc (.cells (mk 16 FB) 27) = w3a at *
        refine (iSY.out _).mono ?_
        rintro e w4 ⟨gs, cs, rfl, RS, hb⟩
        replace K3 := K3.below hb K3.lt
        replace K4 := K4.below hb K4.lt
        replace K7 := K7.below hb K7.lt
        replace HB : Hid (Below w.heap.size w w4) := HB.out.trans (hb.mono HB.out.size)
        replace RS := Lib.hid RS
        clear hb
        go_wp2_with (first | ((with_reducible show wpList _ _ _ (Oper.mk _ (Op.load 27 _) _ _ _ _ :: _) _ _); refine loadB (K3) rfl rfl rfl ?_) | ((with_reducible show wpList _ _ _ (Oper.mk _ (Op.load 27 _) _ _ _ (some _) :: _) _ _); refine loadgB (K3) rfl rfl rfl ?_))
        refine (sSY.out _).mono ?_
        rintro e w5 ⟨gs2, cs2, rfl, QS, hb⟩
        replace K3 := K3.below hb K3.lt
        replace K4 := K4.below hb K4.lt
        replace K7 := K7.below hb K7.lt
        replace RS := Lib.hid (RS.out.below hb)
        replace HB : Hid (Below w.heap.size w w5) := HB.out.trans (hb.mono HB.out.size)
        replace QS := Lib.hid QS
        clear hb
        go_wp2_with (first | ((with_reducible show wpList _ _ _ (Oper.mk _ (Op.load 27 _) _ _ _ _ :: _) _ _); refine loadB (K3) rfl rfl rfl ?_) | ((with_reducible show wpList _ _ _ (Oper.mk _ (Op.load 27 _) _ _ _ (some _) :: _) _ _); refine loadgB (K3) rfl rfl rfl ?_))
        refine (iCF.out _).mono ?_
        rintro e w6 ⟨rfl, hb⟩
        replace K3 := K3.below hb K3.lt
        replace K4 := K4.below hb K4.lt
        replace K7 := K7.below hb K7.lt
        replace RS := Lib.hid (RS.out.below hb)
        replace QS := Lib.hid (QS.out.below hb)
        replace HB : Hid (Below w.heap.size w w6) := HB.out.trans (hb.mono HB.out.size)
        clear hb
        go_wp2_with (first | ((with_reducible show wpList _ _ _ (Oper.mk _ (Op.load 27 _) _ _ _ _ :: _) _ _); refine loadB (K3) rfl rfl rfl ?_) | ((with_reducible show wpList _ _ _ (Oper.mk _ (Op.load 27 _) _ _ _ (some _) :: _) _ _); refine loadgB (K3) rfl rfl rfl ?_))
        refine (sCF.out _).mono ?_
        rintro e w7 ⟨rfl, hb⟩
        replace K3 := K3.below hb K3.lt
        replace K4 := K4.below hb K4.lt
        replace K7 := K7.below hb K7.lt
        replace RS := Lib.hid (RS.out.below hb)
        replace QS := Lib.hid (QS.out.below hb)
        replace HB : Hid (Below w.heap.size w w7) := HB.out.trans (hb.mono HB.out.size)
        clear hb
        go_wp2_with (first | ((with_reducible show wpList _ _ _ (Oper.mk _ (Op.load 27 _) _ _ _ _ :: _) _ _); refine loadB (K3) rfl rfl rfl ?_) | ((with_reducible show wpList _ _ _ (Oper.mk _ (Op.load 27 _) _ _ _ (some _) :: _) _ _); refine loadgB (K3) rfl rfl rfl ?_))
        refine (iFO.out _).mono ?_
        rintro e w8 ⟨gl, cl1, rfl, RL, hb⟩
        replace K3 := K3.below hb K3.lt
        replace K4 := K4.below hb K4.lt
        replace K7 := K7.below hb K7.lt
        replace RS := Lib.hid (RS.out.below hb)
        replace QS := Lib.hid (QS.out.below hb)
        replace HB : Hid (Below w.heap.size w w8) := HB.out.trans (hb.mono HB.out.size)
        replace RL := Lib.hid RL
        clear hb
        go_wp2_with (first | ((with_reducible show wpList _ _ _ (Oper.mk _ (Op.load 27 _) _ _ _ _ :: _) _ _); refine loadB (K3) rfl rfl rfl ?_) | ((with_reducible show wpList _ _ _ (Oper.mk _ (Op.load 27 _) _ _ _ (some _) :: _) _ _); refine loadgB (K3) rfl rfl rfl ?_))
        refine (sFO.out _).mono ?_
        rintro e w9 ⟨gl2, cl2, rfl, QL, hb⟩
        replace K3 := K3.below hb K3.lt
        replace K4 := K4.below hb K4.lt
        replace K7 := K7.below hb K7.lt
        replace RS := Lib.hid (RS.out.below hb)
        replace QS := Lib.hid (QS.out.below hb)
        replace RL := Lib.hid (RL.out.below hb)
        replace HB : Hid (Below w.heap.size w w9) := HB.out.trans (hb.mono HB.out.size)
        replace QL := Lib.hid QL
        clear hb
        go_wp2_with (first | ((with_reducible show wpList _ _ _ (Oper.mk _ (Op.load 27 _) _ _ _ _ :: _) _ _); refine loadB (K3) rfl rfl rfl ?_) | ((with_reducible show wpList _ _ _ (Oper.mk _ (Op.load 27 _) _ _ _ (some _) :: _) _ _); refine loadgB (K3) rfl rfl rfl ?_))
        refine (iDM.out _).mono ?_
        rintro e w10 ⟨gd, cd, rfl, RD, hb⟩
        replace K3 := K3.below hb K3.lt
        replace K4 := K4.below hb K4.lt
        replace K7 := K7.below hb K7.lt
        replace RS := Lib.hid (RS.out.below hb)
        replace QS := Lib.hid (QS.out.below hb)
        replace RL := Lib.hid (RL.out.below hb)
        replace QL := Lib.hid (QL.out.below hb)
        replace HB : Hid (Below w.heap.size w w10) := HB.out.trans (hb.mono HB.out.size)
        replace RD := Lib.hid RD
        clear hb
        go_wp2_with (first | ((with_reducible show wpList _ _ _ (Oper.mk _ (Op.load 27 _) _ _ _ _ :: _) _ _); refine loadB (K3) rfl rfl rfl ?_) | ((with_reducible show wpList _ _ _ (Oper.mk _ (Op.load 27 _) _ _ _ (some _) :: _) _ _); refine loadgB (K3) rfl rfl rfl ?_))
        refine (sDM.out _).mono ?_
        rintro e w11 ⟨gd2, cd2, rfl, QD, hb⟩
        replace K3 := K3.below hb K3.lt
        replace K4 := K4.below hb K4.lt
        replace K7 := K7.below hb K7.lt
        replace RS := Lib.hid (RS.out.below hb)
        replace QS := Lib.hid (QS.out.below hb)
        replace RL := Lib.hid (RL.out.below hb)
        replace QL := Lib.hid (QL.out.below hb)
        replace RD := Lib.hid (RD.out.below hb)
        replace HB : Hid (Below w.heap.size w w11) := HB.out.trans (hb.mono HB.out.size)
        replace QD := Lib.hid QD
        clear hb
        go_wp2_with fail
        refine (vCut1_any a0 len0 cap0 z0 _ hl (isRow_kept HR.out HB.out)).mono ?_
        rintro e w12 ⟨g1, m1, c1, rfl, hm1, hcr, hb⟩
        replace K3 := K3.below hb K3.lt
        replace K4 := K4.below hb K4.lt
        replace K7 := K7.below hb K7.lt
        replace RS := Lib.hid (RS.out.below hb)
        replace QS := Lib.hid (QS.out.below hb)
        replace RL := Lib.hid (RL.out.below hb)
        replace QL := Lib.hid (QL.out.below hb)
        replace RD := Lib.hid (RD.out.below hb)
        replace QD := Lib.hid (QD.out.below hb)
        replace HB : Hid (Below w.heap.size w w12) := HB.out.trans (hb.mono HB.out.size)
        have HCR := Lib.hid hcr
        clear hcr
        clear hb
        go_wp2_with fail
        refine (drawAreSameForm_any (some ⟨g1, 0, none⟩) m1 c1 _ hm1 HCR.out).mono ?_
        rintro e w13 ⟨u, v, rfl, hb⟩
        replace K3 := K3.below hb K3.lt
        replace K4 := K4.below hb K4.lt
        replace K7 := K7.below hb K7.lt
        replace RS := Lib.hid (RS.out.below hb)
        replace QS := Lib.hid (QS.out.below hb)
        replace RL := Lib.hid (RL.out.below hb)
        replace QL := Lib.hid (QL.out.below hb)
        replace RD := Lib.hid (RD.out.below hb)
        replace QD := Lib.hid (QD.out.below hb)
        replace HB : Hid (Below w.heap.size w w13) := HB.out.trans (hb.mono HB.out.size)
        clear hb
        have KU0 := (Blk.new w13 16 (fun _ => 0) 27).alloc (.cells (mk 16 fun _ => 0) 27)
        have KV0 := Blk.new (w13.alloc (.cells (mk 16 fun _ => 0) 27)) 16 (fun _ => 0) 27
        have hz1 : (w13.alloc (.cells (mk 16 fun _ => 0) 27)).heap.size = w13.heap.size + 1 := by simp
        rw [hz1] at KV0
        have hb : Below w13.heap.size w13 ((((w13.alloc (.cells (mk 16 fun _ => 0) 27)).alloc (.cells (mk 16 fun _ => 0) 27)).setRow w13.heap.size (mk 16 u)).setRow (w13.heap.size + 1) (mk 16 v)) := below_setRow (below_setRow (((Below.refl _ w13).alloc (Nat.le_refl _) _).alloc (by simp) _) (Nat.le_refl _) _) (by omega) _
        have KV1 := KV0.rowOther w13.heap.size (mk 16 u) (by omega)
        have KU2 := (KU0.row 16 u).rowOther (w13.heap.size + 1) (mk 16 v) (by omega)
        have KV2 := KV1.row 16 v
        clear hz1
        replace K3 := K3.below hb K3.lt
        replace K4 := K4.below hb K4.lt
        replace K7 := K7.below hb K7.lt
        replace RS := Lib.hid (RS.out.below hb)
        replace QS := Lib.hid (QS.out.below hb)
        replace RL := Lib.hid (RL.out.below hb)
        replace QL := Lib.hid (QL.out.below hb)
        replace RD := Lib.hid (RD.out.below hb)
        replace QD := Lib.hid (QD.out.below hb)
        replace HB : Hid (Below w.heap.size w ((((w13.alloc (.cells (mk 16 fun _ => 0) 27)).alloc (.cells (mk 16 fun _ => 0) 27)).setRow w13.heap.size (mk 16 u)).setRow (w13.heap.size + 1) (mk 16 v))) := HB.out.trans (hb.mono HB.out.size)
        clear hb
        clear HCR
        obtain ⟨AS, hAS⟩ : ∃ F, F = sfmR u v := ⟨_, rfl⟩
        obtain ⟨AO, hAO⟩ : ∃ F, F = lessO u v := ⟨_, rfl⟩
        have iAR : Hid (∀ W, Calls Try.prog 25 #[.agg (mk 16 u), .agg (mk 16 v)] W fun e w' => e = .returned (.tuple #[.bool AS, .bool AO]) ∧ Below W.heap.size W w') := by show ∀ W, _; rw [hAS, hAO]; exact implSame_any u v
        have sAR : Hid (∀ W, Calls Try.prog 26 #[.agg (mk 16 u), .agg (mk 16 v)] W fun e w' => e = .returned (.tuple #[.bool AS, .bool AO]) ∧ Below W.heap.size W w') := by show ∀ W, _; rw [hAS, hAO]; exact specSame_any u v
        have HAS := Lib.hid hAS
        have HAO := Lib.hid hAO
        clear hAS hAO
        go_wp2_with (first | ((with_reducible show wpList _ _ _ (Oper.mk _ (Op.load 27 _) _ _ _ _ :: _) _ _); refine loadB (KU2) rfl rfl rfl ?_) | ((with_reducible show wpList _ _ _ (Oper.mk _ (Op.load 27 _) _ _ _ (some _) :: _) _ _); refine loadgB (KU2) rfl rfl rfl ?_) | ((with_reducible show wpList _ _ _ (Oper.mk _ (Op.load 27 _) _ _ _ _ :: _) _ _); refine loadB (KV2) rfl rfl rfl ?_) | ((with_reducible show wpList _ _ _ (Oper.mk _ (Op.load 27 _) _ _ _ (some _) :: _) _ _); refine loadgB (KV2) rfl rfl rfl ?_) | ((with_reducible show wpList _ _ _ (Oper.mk _ (Op.store 27 _ _) _ _ _ _ :: _) _ _); refine storeB (KU0) rfl rfl rfl rfl ?_) | ((with_reducible show wpList _ _ _ (Oper.mk _ (Op.store 27 _ _) _ _ _ _ :: _) _ _); refine storeB (KV1) rfl rfl rfl rfl ?_))
        generalize (((w13.alloc (.cells (mk 16 fun _ => 0) 27)).alloc (.cells (mk 16 fun _ => 0) 27)).setRow w13.heap.size (mk 16 u)).setRow (w13.heap.size + 1) (mk 16 v) = w13a at *
        clear KU0 KV0 KV1
        refine (iAR.out _).mono ?_
        rintro e w14 ⟨rfl, hb⟩
        replace K3 := K3.below hb K3.lt
        replace K4 := K4.below hb K4.lt
        replace K7 := K7.below hb K7.lt
        replace KU2 := KU2.below hb KU2.lt
        replace KV2 := KV2.below hb KV2.lt
        replace RS := Lib.hid (RS.out.below hb)
        replace QS := Lib.hid (QS.out.below hb)
        replace RL := Lib.hid (RL.out.below hb)
        replace QL := Lib.hid (QL.out.below hb)
        replace RD := Lib.hid (RD.out.below hb)
        replace QD := Lib.hid (QD.out.below hb)
        replace HB : Hid (Below w.heap.size w w14) := HB.out.trans (hb.mono HB.out.size)
        clear hb
        go_wp2_with (first | ((with_reducible show wpList _ _ _ (Oper.mk _ (Op.load 27 _) _ _ _ _ :: _) _ _); refine loadB (KU2) rfl rfl rfl ?_) | ((with_reducible show wpList _ _ _ (Oper.mk _ (Op.load 27 _) _ _ _ (some _) :: _) _ _); refine loadgB (KU2) rfl rfl rfl ?_) | ((with_reducible show wpList _ _ _ (Oper.mk _ (Op.load 27 _) _ _ _ _ :: _) _ _); refine loadB (KV2) rfl rfl rfl ?_) | ((with_reducible show wpList _ _ _ (Oper.mk _ (Op.load 27 _) _ _ _ (some _) :: _) _ _); refine loadgB (KV2) rfl rfl rfl ?_))
        refine (sAR.out _).mono ?_
        rintro e w15 ⟨rfl, hb⟩
        replace K3 := K3.below hb K3.lt
        replace K4 := K4.below hb K4.lt
        replace K7 := K7.below hb K7.lt
        replace KU2 := KU2.below hb KU2.lt
        replace KV2 := KV2.below hb KV2.lt
        replace RS := Lib.hid (RS.out.below hb)
        replace QS := Lib.hid (QS.out.below hb)
        replace RL := Lib.hid (RL.out.below hb)
        replace QL := Lib.hid (QL.out.below hb)
        replace RD := Lib.hid (RD.out.below hb)
        replace QD := Lib.hid (QD.out.below hb)
        replace HB : Hid (Below w.heap.size w w15) := HB.out.trans (hb.mono HB.out.size)
        clear hb
        go_upto_region 17 with (fail)
        simp only [List.append]
        go_wp2_with (first | ((with_reducible show wpList _ _ _ (Oper.mk _ (Op.load 27 _) _ _ _ _ :: _) _ _); refine loadB (K4) rfl rfl rfl ?_) | ((with_reducible show wpList _ _ _ (Oper.mk _ (Op.load 27 _) _ _ _ (some _) :: _) _ _); refine loadgB (K4) rfl rfl rfl ?_) | ((with_reducible show wpList _ _ _ (Oper.mk _ (Op.load 27 _) _ _ _ _ :: _) _ _); refine loadB (K7) rfl rfl rfl ?_) | ((with_reducible show wpList _ _ _ (Oper.mk _ (Op.load 27 _) _ _ _ (some _) :: _) _ _); refine loadgB (K7) rfl rfl rfl ?_))
        refine (vInts_b _ _ n1 h1 _ RS.out QS.out (by omega)).mono ?_
        rintro e w16 ⟨rfl, hb⟩
        replace K3 := K3.below hb K3.lt
        replace K4 := K4.below hb K4.lt
        replace K7 := K7.below hb K7.lt
        replace KU2 := KU2.below hb KU2.lt
        replace KV2 := KV2.below hb KV2.lt
        replace RS := Lib.hid (RS.out.below hb)
        replace QS := Lib.hid (QS.out.below hb)
        replace RL := Lib.hid (RL.out.below hb)
        replace QL := Lib.hid (QL.out.below hb)
        replace RD := Lib.hid (RD.out.below hb)
        replace QD := Lib.hid (QD.out.below hb)
        replace HB : Hid (Below w.heap.size w w16) := HB.out.trans (hb.mono HB.out.size)
        clear hb
        clear QS K7
        go_wp2_with fail
        refine (vBoards_yes _ _ n2 h2 _ RL.out QL.out (by omega)).mono ?_
        rintro e w17 ⟨rfl, hb⟩
        replace K3 := K3.below hb K3.lt
        replace K4 := K4.below hb K4.lt
        replace KU2 := KU2.below hb KU2.lt
        replace KV2 := KV2.below hb KV2.lt
        replace RS := Lib.hid (RS.out.below hb)
        replace RL := Lib.hid (RL.out.below hb)
        replace QL := Lib.hid (QL.out.below hb)
        replace RD := Lib.hid (RD.out.below hb)
        replace QD := Lib.hid (QD.out.below hb)
        replace HB : Hid (Below w.heap.size w w17) := HB.out.trans (hb.mono HB.out.size)
        clear hb
        clear QL
        go_wp2_with fail
        refine (vInts_b _ _ n3 h3 _ RD.out QD.out (by omega)).mono ?_
        rintro e w18 ⟨rfl, hb⟩
        replace K3 := K3.below hb K3.lt
        replace K4 := K4.below hb K4.lt
        replace KU2 := KU2.below hb KU2.lt
        replace KV2 := KV2.below hb KV2.lt
        replace RS := Lib.hid (RS.out.below hb)
        replace RL := Lib.hid (RL.out.below hb)
        replace RD := Lib.hid (RD.out.below hb)
        replace QD := Lib.hid (QD.out.below hb)
        replace HB : Hid (Below w.heap.size w w18) := HB.out.trans (hb.mono HB.out.size)
        clear hb
        clear QD
        clear RS RL RD
        cases hO : AO with
        | true =>
          have hUV := of_decide_eq_true (HAO.out.symm.trans hO)
          have hASv : AS = sameB (fstF u) (fstF v) := by rw [HAS.out]; exact (sfm_yes hUV.1 hUV.2).1
          obtain ⟨FU, hFU⟩ : ∃ F, F = fstF u := ⟨_, rfl⟩
          obtain ⟨FV, hFV⟩ : ∃ F, F = fstF v := ⟨_, rfl⟩
          obtain ⟨NU, hNU⟩ : ∃ F, F = fstRN u := ⟨_, rfl⟩
          obtain ⟨NV, hNV⟩ : ∃ F, F = fstRN v := ⟨_, rfl⟩
          have iU : Hid (∀ W, Calls Try.prog 13 #[.agg (mk 16 u)] W fun e w' => e = .returned (.tuple #[.agg (mk 16 FU), .int .i64 NU, .bool true]) ∧ Below W.heap.size W w') := by show ∀ W, _; rw [hFU, hNU, ← (fstR_yes hUV.1).1, ← vdO_yes hUV.1]; exact implFirst_any u
          have iV : Hid (∀ W, Calls Try.prog 13 #[.agg (mk 16 v)] W fun e w' => e = .returned (.tuple #[.agg (mk 16 FV), .int .i64 NV, .bool true]) ∧ Below W.heap.size W w') := by show ∀ W, _; rw [hFV, hNV, ← (fstR_yes hUV.2).1, ← vdO_yes hUV.2]; exact implFirst_any v
          have sUV : sameB FU FV = AS := by rw [hFU, hFV, hASv]
          clear hUV hASv hFU hFV hNU hNV
          clear HAS
          subst hO
          clear HAO
          go_wp2_with (first | ((with_reducible show wpList _ _ _ (Oper.mk _ (Op.load 27 _) _ _ _ _ :: _) _ _); refine loadB (KU2) rfl rfl rfl ?_) | ((with_reducible show wpList _ _ _ (Oper.mk _ (Op.load 27 _) _ _ _ (some _) :: _) _ _); refine loadgB (KU2) rfl rfl rfl ?_))
          refine (iU.out _).mono ?_
          rintro e w19 ⟨rfl, hb⟩
          replace K3 := K3.below hb K3.lt
          replace K4 := K4.below hb K4.lt
          replace KU2 := KU2.below hb KU2.lt
          replace KV2 := KV2.below hb KV2.lt
          replace HB : Hid (Below w.heap.size w w19) := HB.out.trans (hb.mono HB.out.size)
          clear hb
          replace K3 := K3.alloc (.cells (mk 16 FU) 27)
          replace K4 := K4.alloc (.cells (mk 16 FU) 27)
          replace KU2 := KU2.alloc (.cells (mk 16 FU) 27)
          replace KV2 := KV2.alloc (.cells (mk 16 FU) 27)
          have K32 := Blk.new w19 16 FU 27
          replace HB : Hid (Below w.heap.size w (w19.alloc (.cells (mk 16 FU) 27))) := HB.out.alloc HB.out.size _
          go_wp2_with (first | ((with_reducible show wpList _ _ _ (Oper.mk _ (Op.load 27 _) _ _ _ _ :: _) _ _); refine loadB (KV2) rfl rfl rfl ?_) | ((with_reducible show wpList _ _ _ (Oper.mk _ (Op.load 27 _) _ _ _ (some _) :: _) _ _); refine loadgB (KV2) rfl rfl rfl ?_))
          generalize w19.alloc (.cells (mk 16 FU) 27) = w19a at *
          refine (iV.out _).mono ?_
          rintro e w20 ⟨rfl, hb⟩
          replace K3 := K3.below hb K3.lt
          replace K4 := K4.below hb K4.lt
          replace KU2 := KU2.below hb KU2.lt
          replace KV2 := KV2.below hb KV2.lt
          replace K32 := K32.below hb K32.lt
          replace HB : Hid (Below w.heap.size w w20) := HB.out.trans (hb.mono HB.out.size)
          clear hb
          replace K3 := K3.alloc (.cells (mk 16 FV) 27)
          replace K4 := K4.alloc (.cells (mk 16 FV) 27)
          replace KU2 := KU2.alloc (.cells (mk 16 FV) 27)
          replace KV2 := KV2.alloc (.cells (mk 16 FV) 27)
          replace K32 := K32.alloc (.cells (mk 16 FV) 27)
          have K35 := Blk.new w20 16 FV 27
          replace HB : Hid (Below w.heap.size w (w20.alloc (.cells (mk 16 FV) 27))) := HB.out.alloc HB.out.size _
          go_wp2_with (first | ((with_reducible show wpList _ _ _ (Oper.mk _ (Op.load 27 _) _ _ _ _ :: _) _ _); refine loadB (K32) rfl rfl rfl ?_) | ((with_reducible show wpList _ _ _ (Oper.mk _ (Op.load 27 _) _ _ _ (some _) :: _) _ _); refine loadgB (K32) rfl rfl rfl ?_) | ((with_reducible show wpList _ _ _ (Oper.mk _ (Op.load 27 _) _ _ _ _ :: _) _ _); refine loadB (K35) rfl rfl rfl ?_) | ((with_reducible show wpList _ _ _ (Oper.mk _ (Op.load 27 _) _ _ _ (some _) :: _) _ _); refine loadgB (K35) rfl rfl rfl ?_))
          go_ret
          exact ⟨rfl, HB.out⟩
        | false =>
          clear HAS
          subst hO
          clear HAO
          go_wp2_with fail
          go_ret
          exact ⟨rfl, HB.out⟩
  · have dl : decide ((65536 : Int) < (len0 : Int)) = true := by simp; omega
    go_enter Try.func3, Try.ntmps3
    go_wp2_with fail
    refine (vBig_any a0 len0 cap0 _).mono ?_
    rintro e w' ⟨rfl, rfl⟩
    rw [dl]
    go_wp2_with fail
    go_ret
    exact ⟨rfl, HB.out⟩

noncomputable def laidWorld (os : Os) : World := World.holding Try.prog os ⟨#[], #[], []⟩
theorem laid_met (os : Os) : laidMet Try.prog Rows.fnFirstFormsRow.laid ((laidWorld os).forCall (fun _ _ => 0) ⟨#[], #[.slice none 0 0], []⟩).memory := laidMet_of_run' 8 (by kernel_rfl) (by kernel_rfl)
theorem reads (os : Os) {H : Type} (enc : TypeId × Value → H) : ∃ places, DataW.whole enc Try.prog ((laidWorld os).forCall (fun _ _ => 0) ⟨#[], #[.slice none 0 0], []⟩).memory Try.f3.params.toList Rows.fnFirstFormsSpec.vars false #[.slice none 0 0].toList 8 = some ([.nil], [], places) :=
  ⟨[], by kernel_rfl⟩
set_option linter.unusedVariables false in
set_option maxRecDepth 100000 in
theorem lifted (os : Os) (started : os.Started) (H : Type) (enc : TypeId × Value → H) (F : Stop.Interp) :
    ReturnsInHanded {} Try.checked os 3 .any ((OpenSpec.ofChange Rows.fnFirstFormsSpec).preRow enc Try.prog Try.f3 Rows.fnFirstFormsRow.domain false Rows.fnFirstFormsRow.laid) (((OpenSpec.ofChange Rows.fnFirstFormsSpec).at F).post enc Try.prog Try.f3 false true false false) := by
  obtain ⟨places, hx⟩ := reads os enc
  refine returnsInHanded_of_row (C := Try.checked) (s := (OpenSpec.ofChange Rows.fnFirstFormsSpec)) own started (by kernel_rfl) Try.func3
    (witness_row_at (enc := enc) (C := Try.checked) false (laidWorld os) #[.slice none 0 0] rfl (by kernel_rfl) (by kernel_rfl) (by kernel_rfl)
      (OpenSpec.preRow_of_cond 8 hx (by kernel_rfl) (fun k hk => by cases hk) (by kernel_rfl) (laid_met os))) ?_
  intro W base args ds gs before hval0 hW _ hcond hsz hL hsh _
  have hval : ∀ (j : Nat) t v, Try.f3.params[j]? = some t → args[j]? = some v → Value.okWide Try.prog W .any base t v := hval0
  have hW' := hW
  obtain ⟨p, q, hA0, hV, rfl, hfz, hnd⟩ := hW
  have hA : DataW.TrodAll enc Try.prog W 0 (fun _ => true) true Try.f3.params.toList args.toList ds p := hA0
  rw [Try.params3] at hA hval
  obtain ⟨v0, vs0, d0, ds0, p0, q0, hargs, rfl, rfl, h0, r0⟩ := trodAll_cons hA
  obtain ⟨rfl, rfl, rfl⟩ := trodAll_nil r0
  obtain rfl : args = #[v0] := by cases args; simp_all
  obtain ⟨rfl, rfl⟩ := trodVars_none hV
  obtain ⟨a0, len0, cap0, rfl⟩ := okWide_slice Try.underlying22 (hval 0 22 v0 rfl rfl)
  have k0 := h0
  have lt0 : ∀ x ∈ p0, x.block < W.heap.size := by obtain ⟨m, hm⟩ := k0; exact DataW.trod_lt m _ _ _ hm
  obtain ⟨z0, w0⟩ : ∃ zs, IsRow .u8 W a0 len0 cap0 zs := by
    obtain ⟨fuel, hf⟩ := h0
    rcases open_ints Try.underlying22 Try.underlying5 (by kernel_rfl) hf with ⟨hcs, _⟩ | ⟨x, l, c, zs, hcs, _, hl, hm, hz, _, hcell, hwz⟩
    · simp [Value.cells] at hcs; obtain ⟨rfl, rfl, rfl⟩ := hcs; exact ⟨[], .inl ⟨rfl, rfl, rfl, rfl⟩⟩
    · simp [Value.cells] at hcs; obtain ⟨rfl, rfl, rfl⟩ := hcs; exact ⟨zs, .inr ⟨_, rfl, hl, hm, by simpa using hz, hcell, hwz⟩⟩
  clear hA0 hval0
  have hwalk : Calls Try.prog 3 #[.slice a0 len0 cap0] W fun e w' => e = .returned (.bool true) ∧ Below W.heap.size W w' := walk W hsh a0 len0 cap0 z0 w0
  refine hwalk.mono fun e W' ⟨he, bel⟩ => ?_
  subst he
  exact ⟨_, rfl, _, _, _, [], _, [], hW', trodAll_mk1 (shut_bool Try.underlying4 _), (trodAll_cons_mk (Below.trod laidOut (by kernel_rfl) (of_decide_eq_true (by kernel_rfl)) k0 bel lt0) trodAll_mk0), rfl, bel.frame _, fun h => by cases h⟩
theorem closed : joinedFacts Try.pinned.checked.prog 3 Try.f3 ((OpenSpec.ofChange Rows.fnFirstFormsSpec)).bare Rows.fnFirstFormsRow = true := by
  unfold joinedFacts
  repeat' with_reducible refine and_mk ?_ ?_
  case refine_1.refine_1.refine_1.refine_1.refine_1.refine_1.refine_2 => exact enters
  case refine_1.refine_1.refine_1.refine_1.refine_1.refine_2 => exact (show (Rows.fnFirstFormsRow.lifted == Try.prog.liftsFinal) = true by rw [final_no]; rfl)
  case refine_1.refine_1.refine_1.refine_1.refine_2 => exact (show (Try.prog.make == some Rows.fnFirstFormsRow.make) = true by rw [make_cut]; rfl)
  case refine_1.refine_1.refine_1.refine_1.refine_1.refine_1.refine_1.refine_1.refine_1.refine_1.refine_1.refine_1.refine_1.refine_1.refine_1.refine_1.refine_1.refine_1.refine_1.refine_1.refine_1.refine_1.refine_1.refine_1.refine_1.refine_1.refine_1.refine_1.refine_1.refine_1.refine_2 => exact laidOut
  case refine_1.refine_1.refine_1.refine_1.refine_1.refine_1.refine_1.refine_1.refine_1.refine_1.refine_1.refine_1.refine_1.refine_1.refine_1.refine_1.refine_1.refine_1.refine_1.refine_1.refine_1.refine_1.refine_1.refine_1.refine_1.refine_1.refine_1.refine_1.refine_1.refine_2 => exact maps_rowed
  case refine_1.refine_1.refine_1.refine_1.refine_1.refine_1.refine_1.refine_2 => exact stops_heard
  all_goals (as_aux_lemma => kernel_rfl)
theorem proved : Rows.FnFirstFormsSaid :=
  OpenClaim.holds_of_cond 3 Try.f3 rfl rfl rfl rfl rfl rfl rfl ⟨rfl, rfl, rfl, rfl, rfl⟩ rfl rfl rfl rfl rfl (by kernel_rfl) Try.func3 closed
    (of_decide_eq_true (by kernel_rfl)) (by unfold Func.isWrapper; first | (rw [if_pos (by decide +kernel)]; kernel_rfl) | (rw [if_neg (by decide +kernel)]; exact ⟨rfl, rfl⟩))
    (fun os started H enc _ F => by rw [OpenClaim.pre_eq_preRow]; exact lifted os started H enc F)
#print axioms proved
end Go.Proofs.Ytpiegllffkjneaa.fnFirstForms
