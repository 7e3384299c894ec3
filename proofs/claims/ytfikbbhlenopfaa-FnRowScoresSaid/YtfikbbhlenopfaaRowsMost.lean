/-
  The contracts of MostRowScore, in the reference and in the program, for every row: two functions that call themselves.
-/
import Derived.Test.YtfikbbhlenopfaaRowsSym
namespace Go.Proofs.Ytfikbbhlenopfaa
open Go.RowKit Plain
attribute [local go_sem] store_new

theorem l1Most_any (a b : Int) (w : World) :
    Calls Try.prog 203 #[.int .i64 a, .int .i64 b] w fun e w' => e = .returned (.int .i64 (max a b)) ∧ w = w' := by
  by_cases h : b < a
  · have HM : Hid (max a b = a) := Int.max_eq_left (by omega)
    go_enter Try.func203, Try.ntmps203
    go_wp2
    go_ret
    exact ⟨by rw [HM.out]; rfl, rfl⟩
  · have HM : Hid (max a b = b) := Int.max_eq_right (by omega)
    have h2 : decide (b < a) = false := by simpa using h
    clear h
    go_enter Try.func203, Try.ntmps203
    go_wp2
    go_ret
    exact ⟨by rw [HM.out]; rfl, rfl⟩
/-- What a line's slide scores, by whether it merges. -/
theorem sc_none {f : Nat → Int} (hV : VdRow f) (hm : (slid f 4).mg = 0) : (slid f 4).sc = 0 := by
  have := sc_mg hV 4 (Nat.le_refl _)
  have := (slid_ok hV 4 (Nat.le_refl _)).sc0
  omega
theorem sc_some {f : Nat → Int} (hV : VdRow f) (hm : (slid f 4).mg ≠ 0) : 0 < (slid f 4).sc := by
  have := sc_mg hV 4 (Nat.le_refl _)
  have := (slid_ok hV 4 (Nat.le_refl _)).mg0
  omega
theorem sc_bd {f : Nat → Int} (hV : VdRow f) : 0 ≤ (slid f 4).sc ∧ (slid f 4).sc ≤ 1048576 := by
  have h := slid_ok hV 4 (Nat.le_refl _)
  have := h.sc0
  have := h.sc1
  omega
set_option maxHeartbeats 2000000 in
theorem l4Best_any : ∀ (g : Nat) (f : Nat → Int) (w : World), VdRow f → tl f < g → g ≤ 5 →
    Calls Try.prog 170 #[.agg (mk 4 f)] w fun e w' => e = .returned (.int .i64 (mo g f)) ∧ Below w.heap.size w w' := by
  intro g
  induction g with
  | zero => intro f w _ h _; omega
  | succ g ih =>
    intro f w hV htl hg5
    have K1 := Blk.new w 4 f 24
    have HB := Lib.hid ((Below.refl w.heap.size w).alloc (Nat.le_refl _) (.cells (mk 4 f) 24))
    have z4 := zero4
    have HV := Lib.hid hV
    have HW := Lib.hid (rev_vd hV)
    obtain ⟨s0, s1⟩ := sc_bd hV
    obtain ⟨t0, t1⟩ := sc_bd (rev_vd hV)
    obtain ⟨m0, m1⟩ := mo_bd g (slid f 4).row (slid_vd hV)
    obtain ⟨n0, n1⟩ := mo_bd g (slid (rev f) 4).row (slid_vd (rev_vd hV))
    have hm1 : mo g (slid f 4).row ≤ 5242880 := by omega
    have hn1 : mo g (slid (rev f) 4).row ≤ 5242880 := by omega
    clear m1 n1
    by_cases hm : (slid f 4).mg = 0
    · have HR : Hid (mo (g + 1) f = 0) := mo_none hm
      have e1 := sc_none hV hm
      have e2 := sc_none (rev_vd hV) (by rw [mg_rev]; exact hm)
      clear hV hm htl
      go_enter Try.func170, Try.ntmps170
      go_wp2_with ((with_reducible show wpList _ _ _ (Oper.mk _ (Op.load 24 _) _ _ _ _ :: _) _ _); refine loadR (K1) rfl rfl rfl ?_)
      refine (l2Row_any f _ HV.out).mono ?_
      rintro e w1 ⟨rfl, hb⟩
      replace K1 := K1.below hb K1.lt
      replace HB : Hid (Below w.heap.size w w1) := HB.out.trans (hb.mono HB.out.size)
      clear hb
      rw [e1]
      replace K1 := K1.alloc (.cells (mk 4 (slid f 4).row) 24)
      replace HB : Hid (Below w.heap.size w (w1.alloc (.cells (mk 4 (slid f 4).row) 24))) := HB.out.alloc HB.out.size _
      go_wp2_with ((with_reducible show wpList _ _ _ (Oper.mk _ (Op.load 24 _) _ _ _ _ :: _) _ _); refine loadR (K1) rfl rfl rfl ?_)
      refine (l4Turn_any f _).mono ?_
      rintro e w2 ⟨rfl, hb⟩
      replace K1 := K1.below hb K1.lt
      replace HB : Hid (Below w.heap.size w w2) := HB.out.trans (hb.mono HB.out.size)
      clear hb
      go_wp2_with fail
      refine (l2Row_any (rev f) _ HW.out).mono ?_
      rintro e w3 ⟨rfl, hb⟩
      replace K1 := K1.below hb K1.lt
      replace HB : Hid (Below w.heap.size w w3) := HB.out.trans (hb.mono HB.out.size)
      clear hb
      rw [e2]
      replace HB : Hid (Below w.heap.size w (w3.alloc (.cells (mk 4 (slid (rev f) 4).row) 24))) := HB.out.alloc HB.out.size _
      go_wp2_with fail
      go_ret
      exact ⟨by rw [HR.out]; rfl, HB.out⟩
    · have HR : Hid (mo (g + 1) f = max ((slid f 4).sc + mo g (slid f 4).row) ((slid (rev f) 4).sc + mo g (slid (rev f) 4).row)) := mo_some hm
      have p1 := sc_some hV hm
      have p2 := sc_some (rev_vd hV) (by rw [mg_rev]; exact hm)
      have HT1 : Hid (tl (slid f 4).row < g) := by have := tl_slid hV hm; show _ < _; omega
      have HT2 : Hid (tl (slid (rev f) 4).row < g) := by have := tl_slid (rev_vd hV) (by rw [mg_rev]; exact hm); rw [tl_rev] at this; show _ < _; omega
      have hg : g ≤ 5 := by omega
      clear hV hm htl
      go_enter Try.func170, Try.ntmps170
      go_wp2_with ((with_reducible show wpList _ _ _ (Oper.mk _ (Op.load 24 _) _ _ _ _ :: _) _ _); refine loadR (K1) rfl rfl rfl ?_)
      refine (l2Row_any f _ HV.out).mono ?_
      rintro e w1 ⟨rfl, hb⟩
      replace K1 := K1.below hb K1.lt
      replace HB : Hid (Below w.heap.size w w1) := HB.out.trans (hb.mono HB.out.size)
      clear hb
      replace K1 := K1.alloc (.cells (mk 4 (slid f 4).row) 24)
      have K2 := Blk.new w1 4 (slid f 4).row 24
      replace HB : Hid (Below w.heap.size w (w1.alloc (.cells (mk 4 (slid f 4).row) 24))) := HB.out.alloc HB.out.size _
      go_wp2_with ((with_reducible show wpList _ _ _ (Oper.mk _ (Op.load 24 _) _ _ _ _ :: _) _ _); refine loadR (K1) rfl rfl rfl ?_)
      refine (l4Turn_any f _).mono ?_
      rintro e w2 ⟨rfl, hb⟩
      replace K2 := K2.below hb K2.lt
      replace HB : Hid (Below w.heap.size w w2) := HB.out.trans (hb.mono HB.out.size)
      clear hb K1
      go_wp2_with fail
      refine (l2Row_any (rev f) _ HW.out).mono ?_
      rintro e w3 ⟨rfl, hb⟩
      replace K2 := (K2.below hb K2.lt).alloc (.cells (mk 4 (slid (rev f) 4).row) 24)
      have K3 := Blk.new w3 4 (slid (rev f) 4).row 24
      replace HB : Hid (Below w.heap.size w w3) := HB.out.trans (hb.mono HB.out.size)
      replace HB : Hid (Below w.heap.size w (w3.alloc (.cells (mk 4 (slid (rev f) 4).row) 24))) := HB.out.alloc HB.out.size _
      clear hb
      go_wp2_with ((with_reducible show wpList _ _ _ (Oper.mk _ (Op.load 24 _) _ _ _ _ :: _) _ _); refine loadR (K2) rfl rfl rfl ?_)
      refine (ih (slid f 4).row _ (slid_vd HV.out) HT1.out hg).mono ?_
      rintro e w4 ⟨rfl, hb⟩
      replace K3 := K3.below hb K3.lt
      replace HB : Hid (Below w.heap.size w w4) := HB.out.trans (hb.mono HB.out.size)
      clear hb K2
      go_wp2_with ((with_reducible show wpList _ _ _ (Oper.mk _ (Op.load 24 _) _ _ _ _ :: _) _ _); refine loadR (K3) rfl rfl rfl ?_)
      refine (ih (slid (rev f) 4).row _ (slid_vd HW.out) HT2.out hg).mono ?_
      rintro e w5 ⟨rfl, hb⟩
      replace HB : Hid (Below w.heap.size w w5) := HB.out.trans (hb.mono HB.out.size)
      clear hb K3 ih
      go_wp2_with fail
      refine (l1Most_any _ _ _).mono ?_
      rintro e w6 ⟨rfl, rfl⟩
      go_wp2_with fail
      go_ret
      exact ⟨by rw [HR.out]; rfl, HB.out⟩
theorem held4m_step {w W w6 : World} {b n c m : Nat} {f g : Nat → Int} {t u : TypeId} (h : Blk W b n f t ∧ Blk W c m g u ∧ Below w.heap.size w W) (hb : Below W.heap.size W w6) : Blk w6 b n f t ∧ Blk w6 c m g u ∧ Below w.heap.size w w6 :=
  ⟨h.1.below hb h.1.lt, h.2.1.below hb h.2.1.lt, h.2.2.trans (hb.mono h.2.2.size)⟩
set_option maxHeartbeats 4000000 in
theorem mostScore_any : ∀ (g : Nat) (f : Nat → Int) (w : World), VdRow f → tl f < g → g ≤ 5 →
    Calls Try.prog 169 #[.agg (mk 4 f)] w fun e w' => e = .returned (.int .i64 (mo g f)) ∧ Below w.heap.size w w' := by
  intro g
  induction g with
  | zero => intro f w _ h _; omega
  | succ g ih =>
    intro f w hV htl hg5
    have K1 := Blk.new w 4 f 24
    have HB := Lib.hid ((Below.refl w.heap.size w).alloc (Nat.le_refl _) (.cells (mk 4 f) 24))
    have z4 := zero4
    have HV := Lib.hid hV
    have HW := Lib.hid (rev_vd hV)
    obtain ⟨s0, s1⟩ := sc_bd hV
    obtain ⟨t0, t1⟩ := sc_bd (rev_vd hV)
    obtain ⟨m0, m1⟩ := mo_bd g (slid f 4).row (slid_vd hV)
    obtain ⟨n0, n1⟩ := mo_bd g (slid (rev f) 4).row (slid_vd (rev_vd hV))
    have hm1 : mo g (slid f 4).row ≤ 5242880 := by omega
    have hn1 : mo g (slid (rev f) 4).row ≤ 5242880 := by omega
    clear m1 n1
    by_cases hm : (slid f 4).mg = 0
    · have HR : Hid (mo (g + 1) f = 0) := mo_none hm
      have HM := Lib.hid hm
      clear hV hm htl
      go_enter Try.func169, Try.ntmps169
      go_wp2_with ((with_reducible show wpList _ _ _ (Oper.mk _ (Op.load 24 _) _ _ _ _ :: _) _ _); refine loadR (K1) rfl rfl rfl ?_)
      refine (slideLine_any f _ HV.out).mono ?_
      rintro e w1 ⟨rfl, hb⟩
      replace K1 := K1.below hb K1.lt
      replace HB : Hid (Below w.heap.size w w1) := HB.out.trans (hb.mono HB.out.size)
      clear hb
      rw [HM.out]
      replace HB : Hid (Below w.heap.size w (w1.alloc (.cells (mk 4 (slid f 4).row) 24))) := HB.out.alloc HB.out.size _
      go_wp2_with fail
      go_ret
      exact ⟨by rw [HR.out]; rfl, HB.out⟩
    · have HR : Hid (mo (g + 1) f = max ((slid f 4).sc + mo g (slid f 4).row) ((slid (rev f) 4).sc + mo g (slid (rev f) 4).row)) := mo_some hm
      have HT1 : Hid (tl (slid f 4).row < g) := by have := tl_slid hV hm; show _ < _; omega
      have HT2 : Hid (tl (rev (slid (rev f) 4).row) < g) := by have := tl_slid (rev_vd hV) (by rw [mg_rev]; exact hm); rw [tl_rev] at this; rw [tl_rev]; show _ < _; omega
      have HQ1 : Hid (VdRow (slid f 4).row) := slid_vd hV
      have HQ2 : Hid (VdRow (rev (slid (rev f) 4).row)) := rev_vd (slid_vd (rev_vd hV))
      have HZ : Hid (mo g (rev (slid (rev f) 4).row) = mo g (slid (rev f) 4).row) := mo_rev g _
      have hg : g ≤ 5 := by omega
      have d0 : ((slid f 4).mg == 0) = false := by simpa using hm
      have IH := Lib.hid ih
      clear hV hm htl ih
      go_enter Try.func169, Try.ntmps169
      go_wp2_with ((with_reducible show wpList _ _ _ (Oper.mk _ (Op.load 24 _) _ _ _ _ :: _) _ _); refine loadR (K1) rfl rfl rfl ?_)
      refine (slideLine_any f _ HV.out).mono ?_
      rintro e w1 ⟨rfl, hb⟩
      replace K1 := K1.below hb K1.lt
      replace HB : Hid (Below w.heap.size w w1) := HB.out.trans (hb.mono HB.out.size)
      clear hb
      replace K1 := K1.alloc (.cells (mk 4 (slid f 4).row) 24)
      have K2 := Blk.new w1 4 (slid f 4).row 24
      replace HB : Hid (Below w.heap.size w (w1.alloc (.cells (mk 4 (slid f 4).row) 24))) := HB.out.alloc HB.out.size _
      go_wp2_with ((with_reducible show wpList _ _ _ (Oper.mk _ (Op.load 24 _) _ _ _ _ :: _) _ _); refine loadR (K1) rfl rfl rfl ?_)
      refine (slideToLast_any f _ HV.out).mono ?_
      rintro e w2 ⟨rfl, hb⟩
      replace K2 := (K2.below hb K2.lt).alloc (.cells (mk 4 (rev (slid (rev f) 4).row)) 24)
      have K3 := Blk.new w2 4 (rev (slid (rev f) 4).row) 24
      replace HB : Hid (Below w.heap.size w w2) := HB.out.trans (hb.mono HB.out.size)
      replace HB : Hid (Below w.heap.size w (w2.alloc (.cells (mk 4 (rev (slid (rev f) 4).row)) 24))) := HB.out.alloc HB.out.size _
      clear hb K1
      go_wp2_with fail
      generalize w2.alloc (.cells (mk 4 (rev (slid (rev f) 4).row)) 24) = w4 at *
      generalize hR : rev (slid (rev f) 4).row = R at *
      generalize hL : (slid f 4).row = L at *
      generalize hX : mo g L = X at *
      generalize hY : mo g (slid (rev f) 4).row = Y at *
      generalize (slid f 4).sc = S at *
      generalize (slid (rev f) 4).sc = T at *
      have C1 : ∀ W, Calls Try.prog 169 #[.agg (mk 4 L)] W fun e w' => e = .returned (.int .i64 X) ∧ Below W.heap.size W w' := fun W => by
        have := IH.out L W HQ1.out HT1.out hg
        rwa [hX] at this
      have C2 : ∀ W, Calls Try.prog 169 #[.agg (mk 4 R)] W fun e w' => e = .returned (.int .i64 Y) ∧ Below W.heap.size W w' := fun W => by
        have := IH.out R W HQ2.out HT2.out hg
        rwa [HZ.out] at this
      have HC1 := Lib.hid C1
      have HC2 := Lib.hid C2
      have HF := Lib.hid HR.out
      clear C1 C2 IH HZ hX hY HQ1 HQ2 HT1 HT2 hL hR HR HV HW
      have w1' : IntKind.i64.wrap (S + X) = S + X := IntWalk.i64_in _ (by omega)
      have w2' : IntKind.i64.wrap (T + Y) = T + Y := IntWalk.i64_in _ (by omega)
      have a0 := fun (W : World) (h : Blk W w1.heap.size 4 L 24) => h.cell (i := 0) (by omega)
      have a1 := fun (W : World) (h : Blk W w1.heap.size 4 L 24) => h.cell (i := 1) (by omega)
      have a2 := fun (W : World) (h : Blk W w1.heap.size 4 L 24) => h.cell (i := 2) (by omega)
      have a3 := fun (W : World) (h : Blk W w1.heap.size 4 L 24) => h.cell (i := 3) (by omega)
      have ae : (#[.int .i64 (L 0), .int .i64 (L 1), .int .i64 (L 2), .int .i64 (L 3)] : Array Value) = mk 4 L := rfl
      have b0 := fun (W : World) (h : Blk W w2.heap.size 4 R 24) => h.cell (i := 0) (by omega)
      have b1 := fun (W : World) (h : Blk W w2.heap.size 4 R 24) => h.cell (i := 1) (by omega)
      have b2 := fun (W : World) (h : Blk W w2.heap.size 4 R 24) => h.cell (i := 2) (by omega)
      have b3 := fun (W : World) (h : Blk W w2.heap.size 4 R 24) => h.cell (i := 3) (by omega)
      have be : (#[.int .i64 (R 0), .int .i64 (R 1), .int .i64 (R 2), .int .i64 (R 3)] : Array Value) = mk 4 R := rfl
      go_region_held3 (fun w' => Blk w' w1.heap.size 4 L 24 ∧ Blk w' w2.heap.size 4 R 24 ∧ Below w.heap.size w w') (first | exact ⟨K2.drew, K3.drew, HB.out.drew⟩ | assumption) (first | (go_at_call 169; (first | (with_reducible refine (HC1.out _).mono ?_) | (with_reducible refine (HC2.out _).mono ?_)); rintro e w6 ⟨rfl, hb6⟩; have J := held4m_step (by assumption) hb6; clear hb6) | fail)
      all_goals
        clear a0 a1 a2 a3 ae b0 b1 b2 b3 be
        go_wp2_with fail
        go_ret
        exact ⟨by rw [HF.out]; rfl, And.right (And.right (by assumption))⟩
set_option maxHeartbeats 1000000 in
theorem specMost_any (f : Nat → Int) (w : World) :
    Calls Try.prog 89 #[.agg (mk 4 f)] w fun e w' => e = .returned (.tuple #[.int .i64 (moR f), .bool (rwO f)]) ∧ Below w.heap.size w w' := by
  have K1 := Blk.new w 4 f 24
  have HB := Lib.hid ((Below.refl w.heap.size w).alloc (Nat.le_refl _) (.cells (mk 4 f) 24))
  have z4 := zero4
  by_cases hV : VdRow f
  · rw [mo_yes hV, rwO_yes hV]
    have HV := Lib.hid hV
    have HO := Lib.hid (rwO_yes hV)
    have ht : tl f < 5 := by unfold tl; omega
    clear hV
    go_enter Try.func89, Try.ntmps89
    go_wp2_with ((with_reducible show wpList _ _ _ (Oper.mk _ (Op.load 24 _) _ _ _ _ :: _) _ _); refine loadR (K1) rfl rfl rfl ?_)
    refine (l4Row_any _ _).mono ?_
    rw [HO.out]
    rintro e w1 ⟨rfl, hb⟩
    replace K1 := K1.below hb K1.lt
    replace HB : Hid (Below w.heap.size w w1) := HB.out.trans (hb.mono HB.out.size)
    clear hb
    go_wp2_with ((with_reducible show wpList _ _ _ (Oper.mk _ (Op.load 24 _) _ _ _ _ :: _) _ _); refine loadR (K1) rfl rfl rfl ?_)
    refine (l4Best_any 5 f _ HV.out ht (by omega)).mono ?_
    rintro e w2 ⟨rfl, hb⟩
    replace K1 := K1.below hb K1.lt
    replace HB : Hid (Below w.heap.size w w2) := HB.out.trans (hb.mono HB.out.size)
    clear hb
    go_wp2_with fail
    go_ret2
    exact ⟨rfl, HB.out⟩
  · rw [mo_no hV, rwO_no hV]
    have HO := Lib.hid (rwO_no hV)
    clear hV
    go_enter Try.func89, Try.ntmps89
    go_wp2_with ((with_reducible show wpList _ _ _ (Oper.mk _ (Op.load 24 _) _ _ _ _ :: _) _ _); refine loadR (K1) rfl rfl rfl ?_)
    refine (l4Row_any _ _).mono ?_
    rw [HO.out]
    rintro e w1 ⟨rfl, hb⟩
    replace K1 := K1.below hb K1.lt
    replace HB : Hid (Below w.heap.size w w1) := HB.out.trans (hb.mono HB.out.size)
    clear hb
    go_wp2_with fail
    go_ret2
    exact ⟨rfl, HB.out⟩
set_option maxHeartbeats 1000000 in
theorem implMost_any (f : Nat → Int) (w : World) :
    Calls Try.prog 88 #[.agg (mk 4 f)] w fun e w' => e = .returned (.tuple #[.int .i64 (moR f), .bool (rwO f)]) ∧ Below w.heap.size w w' := by
  have K1 := Blk.new w 4 f 24
  have HB := Lib.hid ((Below.refl w.heap.size w).alloc (Nat.le_refl _) (.cells (mk 4 f) 24))
  have z4 := zero4
  by_cases hV : VdRow f
  · rw [mo_yes hV, rwO_yes hV]
    have HV := Lib.hid hV
    have HO := Lib.hid (rwO_yes hV)
    have ht : tl f < 5 := by unfold tl; omega
    clear hV
    go_enter Try.func88, Try.ntmps88
    go_wp2_with ((with_reducible show wpList _ _ _ (Oper.mk _ (Op.load 24 _) _ _ _ _ :: _) _ _); refine loadR (K1) rfl rfl rfl ?_)
    refine (implIsRow_any _ _).mono ?_
    rw [HO.out]
    rintro e w1 ⟨rfl, hb⟩
    replace K1 := K1.below hb K1.lt
    replace HB : Hid (Below w.heap.size w w1) := HB.out.trans (hb.mono HB.out.size)
    clear hb
    go_wp2_with ((with_reducible show wpList _ _ _ (Oper.mk _ (Op.load 24 _) _ _ _ _ :: _) _ _); refine loadR (K1) rfl rfl rfl ?_)
    refine (mostScore_any 5 f _ HV.out ht (by omega)).mono ?_
    rintro e w2 ⟨rfl, hb⟩
    replace K1 := K1.below hb K1.lt
    replace HB : Hid (Below w.heap.size w w2) := HB.out.trans (hb.mono HB.out.size)
    clear hb
    go_wp2_with fail
    go_ret2
    exact ⟨rfl, HB.out⟩
  · rw [mo_no hV, rwO_no hV]
    have HO := Lib.hid (rwO_no hV)
    clear hV
    go_enter Try.func88, Try.ntmps88
    go_wp2_with ((with_reducible show wpList _ _ _ (Oper.mk _ (Op.load 24 _) _ _ _ _ :: _) _ _); refine loadR (K1) rfl rfl rfl ?_)
    refine (implIsRow_any _ _).mono ?_
    rw [HO.out]
    rintro e w1 ⟨rfl, hb⟩
    replace K1 := K1.below hb K1.lt
    replace HB : Hid (Below w.heap.size w w1) := HB.out.trans (hb.mono HB.out.size)
    clear hb
    go_wp2_with fail
    go_ret2
    exact ⟨rfl, HB.out⟩
end Go.Proofs.Ytfikbbhlenopfaa
