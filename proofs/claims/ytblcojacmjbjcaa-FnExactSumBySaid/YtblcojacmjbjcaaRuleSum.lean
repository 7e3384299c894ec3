/-
  The contracts of SumBy, in the reference and in the program, for every board and every number.
-/
import Derived.Test.YtblcojacmjbjcaaRuleMv
import Derived.Test.YtblcojacmjbjcaaMergers
import Derived.Test.YtblcojacmjbjcaaCount
import Derived.Test.YtblcojacmjbjcaaPlainA
namespace Go.Proofs.Ytblcojacmjbjcaa
open Go.RowKit Plain
attribute [local go_sem] store_new
set_option linter.unusedVariables false
set_option linter.unusedSimpArgs false
set_option maxHeartbeats 2000000 in
set_option maxRecDepth 20000 in
theorem specSumBy_any (f : Nat → Int) (r : Int) (w : World) :
    Calls Try.prog 35 #[.agg (mk 16 f), .int .i64 r] w fun e w' => e = .returned (.tuple #[.int .i64 (rSR f r), .bool (rbO f r)]) ∧ Below w.heap.size w w' := by
  have K1 := Blk.new w 16 f 37
  have HB := Lib.hid ((Below.refl w.heap.size w).alloc (Nat.le_refl _) (.cells (mk 16 f) 37))
  by_cases hV : Vd f
  · have HV := Lib.hid hV
    by_cases hR : RlOk r
    · have HR := Lib.hid hR
      rw [(rm_yes (f := f) (r := r) ⟨hV, hR⟩).2.1, rSR_yes (f := f) (r := r) ⟨hV, hR⟩]
      clear hV hR
      go_enter Try.func35, Try.ntmps35
      go_wp2_with (first | ((with_reducible show wpList _ _ _ (Oper.mk _ (Op.load 37 _) _ _ _ _ :: _) _ _); refine loadB (K1) rfl rfl rfl ?_) | ((with_reducible show wpList _ _ _ (Oper.mk _ (Op.load 37 _) _ _ _ (some _) :: _) _ _); refine loadgB (K1) rfl rfl rfl ?_))
      refine (l2Board_yes _ _ HV.out).mono ?_
      rintro e wg1 ⟨rfl, hb⟩
      have K1 := K1.below hb K1.lt
      have HB : Hid (Below w.heap.size w wg1) := HB.out.trans (hb.mono HB.out.size)
      clear hb
      go_wp2_with (first | ((with_reducible show wpList _ _ _ (Oper.mk _ (Op.load 37 _) _ _ _ _ :: _) _ _); refine loadB (K1) rfl rfl rfl ?_) | ((with_reducible show wpList _ _ _ (Oper.mk _ (Op.load 37 _) _ _ _ (some _) :: _) _ _); refine loadgB (K1) rfl rfl rfl ?_))
      refine (l10Rule_yes r _ HR.out).mono ?_
      rintro e wg2 ⟨rfl, rfl⟩
      go_wp2_with fail
      go_loopg [7, 6] 4 (fun g s7 s6 wx => ∃ r0 : Nat, r0 + g = 4 ∧ s7 = .int .i64 r0 ∧ s6 = .int .i64 (rSum r f (r0 * 4)) ∧ wg1 = wx)
      case atStart => exact ⟨0, by omega, rfl, rfl, rfl⟩
      case round =>
        obtain ⟨r0, hrg, rfl, rfl, rfl⟩ := hrel
        cases gk with
        | zero =>
          have hr : ¬ ((r0 : Int) < 4) := by omega
          obtain rfl : r0 = 4 := by omega
          clear hrg hr
          go_wp2_with fail
          go_ret2
          exact ⟨rfl, HB.out⟩
        | succ g =>
          have hr4 : (r0 : Int) < 4 := by omega
          go_wp2_with fail
          go_loopg [8, 6] 4 (fun h s8 s6 wx => ∃ c : Nat, c + h = 4 ∧ s8 = .int .i64 c ∧ s6 = .int .i64 (rSum r f (r0 * 4 + c)) ∧ wg1 = wx)
          case atStart => exact ⟨0, by omega, rfl, rfl, rfl⟩
          case round =>
            obtain ⟨c, hch, rfl, rfl, rfl⟩ := hrel
            cases gk with
            | zero =>
              have hc : ¬ ((c : Int) < 4) := by omega
              have HC : Hid (r0 * 4 + c = (r0 + 1) * 4) := by show _ = _; omega
              go_wp2_with fail
              go_roundg g
              case rel => exact ⟨r0 + 1, by omega, by go_num, by rw [HC.out], rfl⟩
              case measure => omega
            | succ h =>
              have hc : (c : Int) < 4 := by omega
              have k1 := K1.cell (i := r0 * 4 + c) (by omega)
              obtain ⟨x0, x1⟩ := HV.out (r0 * 4 + c) (by omega)
              obtain ⟨s0, s1⟩ := rSum_bd HR.out HV.out (r0 * 4 + c) (by omega)
              have s2 : rSum r f (r0 * 4 + c) ≤ 4194304 := by omega
              have HS : Hid (rSum r f (r0 * 4 + (c + 1)) = rSum r f (r0 * 4 + c) + woZ r (f (r0 * 4 + c))) := rfl
              generalize rSum r f (r0 * 4 + c) = S at *
              generalize f (r0 * 4 + c) = x at *
              by_cases hx : 0 < x
              · have HT : Hid (TlOk x) := by show TlOk x; unfold TlOk; omega
                obtain ⟨w0, w1'⟩ := woF_bd HR.out HT.out
                have HW : Hid (woZ r x = woF r x) := if_pos hx
                go_wp2_with fail
                refine (l10Worth_any r x _ HR.out HT.out).mono ?_
                rintro e w' ⟨rfl, rfl⟩
                generalize woF r x = v at *
                go_wp2_with fail
                go_roundg h
                case rel => exact ⟨c + 1, by omega, by go_num, by rw [HS.out, HW.out], rfl⟩
                case measure => omega
              · have hx2 : x ≤ 0 := by omega
                have HW : Hid (woZ r x = 0) := if_neg hx
                go_wp2_with fail
                go_roundg h
                case rel => exact ⟨c + 1, by omega, by go_num, by rw [HS.out, HW.out, Int.add_zero], rfl⟩
                case measure => omega
    · rw [(rm_no (f := f) (r := r) fun h => hR h.2).2.1, rSR_no (f := f) (r := r) fun h => hR h.2]
      have HR := Lib.hid hR
      clear hV hR
      go_enter Try.func35, Try.ntmps35
      go_wp2_with (first | ((with_reducible show wpList _ _ _ (Oper.mk _ (Op.load 37 _) _ _ _ _ :: _) _ _); refine loadB (K1) rfl rfl rfl ?_) | ((with_reducible show wpList _ _ _ (Oper.mk _ (Op.load 37 _) _ _ _ (some _) :: _) _ _); refine loadgB (K1) rfl rfl rfl ?_))
      refine (l2Board_yes _ _ HV.out).mono ?_
      rintro e wg1 ⟨rfl, hb⟩
      have K1 := K1.below hb K1.lt
      have HB : Hid (Below w.heap.size w wg1) := HB.out.trans (hb.mono HB.out.size)
      clear hb
      go_wp2_with (first | ((with_reducible show wpList _ _ _ (Oper.mk _ (Op.load 37 _) _ _ _ _ :: _) _ _); refine loadB (K1) rfl rfl rfl ?_) | ((with_reducible show wpList _ _ _ (Oper.mk _ (Op.load 37 _) _ _ _ (some _) :: _) _ _); refine loadgB (K1) rfl rfl rfl ?_))
      refine (l10Rule_no r _ HR.out).mono ?_
      rintro e wg2 ⟨rfl, rfl⟩
      go_wp2_with fail
      go_ret2
      exact ⟨rfl, HB.out⟩
  · rw [(rm_no (f := f) (r := r) fun h => hV h.1).2.1, rSR_no (f := f) (r := r) fun h => hV h.1]
    have HV := Lib.hid hV
    clear hV
    go_enter Try.func35, Try.ntmps35
    go_wp2_with (first | ((with_reducible show wpList _ _ _ (Oper.mk _ (Op.load 37 _) _ _ _ _ :: _) _ _); refine loadB (K1) rfl rfl rfl ?_) | ((with_reducible show wpList _ _ _ (Oper.mk _ (Op.load 37 _) _ _ _ (some _) :: _) _ _); refine loadgB (K1) rfl rfl rfl ?_))
    refine (l2Board_no _ _ HV.out).mono ?_
    rintro e wg1 ⟨rfl, hb⟩
    have K1 := K1.below hb K1.lt
    have HB : Hid (Below w.heap.size w wg1) := HB.out.trans (hb.mono HB.out.size)
    clear hb
    go_wp2_with fail
    go_ret2
    exact ⟨rfl, HB.out⟩
set_option maxHeartbeats 2000000 in
set_option maxRecDepth 20000 in
theorem implSumYes_1 (f : Nat → Int) (w : World) (hV : Vd f) :
    Calls Try.prog 36 #[.agg (mk 16 f), .int .i64 1] w fun e w' => e = .returned (.tuple #[.int .i64 (rSum 1 f 16), .bool true]) ∧ Below w.heap.size w w' := by
  have z18 := zero18
  have K1 := Blk.new w 16 f 37
  have HB := Lib.hid ((Below.refl w.heap.size w).alloc (Nat.le_refl _) (.cells (mk 16 f) 37))
  have HV := Lib.hid hV
  have HR : Hid (RlOk 1) := by show RlOk 1; decide
  have CL : Hid (∀ W, Calls Try.prog 51 #[.int .i64 1] W fun e w' => e = .returned (.tuple #[.iface 112 (.agg #[.iface 110 (.agg #[])]), .bool true]) ∧ Below W.heap.size W w') := fun W => lawOf_at 1 W (by decide)
  have HWo : Hid (∀ t W, TlOk t → Calls Try.prog 142 #[.agg #[], .int .i64 t] W fun e w' => e = .returned (.int .i64 (woF 1 t)) ∧ Below W.heap.size W w') := fun t W ht => doublingW t W ht
  have CC : Hid (∀ W, Calls Try.prog 66 #[.agg (mk 16 f)] W fun e w' => e = .returned (.tuple #[.agg (mk 18 (cntF f 16)), .bool true]) ∧ Below W.heap.size W w') := by
    intro W
    have := implCount_any f W
    rw [cntR_yes hV, vdO_yes hV] at this
    exact this
  clear hV
  go_enter Try.func36, Try.ntmps36
  go_wp2_with fail
  refine (CL.out _).mono ?_
  rintro e w1 ⟨rfl, hb⟩
  have K1 := K1.below hb K1.lt
  have HB : Hid (Below w.heap.size w w1) := HB.out.trans (hb.mono HB.out.size)
  clear hb
  go_wp2_with ((with_reducible show wpList _ _ _ (Oper.mk _ (Op.load 37 _) _ _ _ _ :: _) _ _); refine loadB (K1) rfl rfl rfl ?_)
  refine (CC.out _).mono ?_
  rintro e w2 ⟨rfl, hb⟩
  have HB : Hid (Below w.heap.size w w2) := HB.out.trans (hb.mono HB.out.size)
  have HB : Hid (Below w.heap.size w (w2.alloc (.cells (mk 18 (cntF f 16)) 77))) := HB.out.alloc HB.out.size _
  have K8 := Blk.new w2 18 (cntF f 16) 77
  clear hb K1
  go_wp2_with fail
  generalize w2.alloc (.cells (mk 18 (cntF f 16)) 77) = w3 at *
  generalize w2.heap.size = b8 at *
  go_loopg [11, 10] 17 (fun g s11 s10 wr => ∃ T : Nat, T + g = 17 ∧ s11 = .int .i64 ((T + 1 : Nat) : Int) ∧ s10 = .int .i64 (rSumT 1 f 16 T) ∧ Blk wr b8 18 (cntF f 16) 77 ∧ Hid (Below w.heap.size w wr))
  case atStart => exact ⟨0, by omega, rfl, rfl, K8, HB⟩
  case round =>
    clear K8 HB
    obtain ⟨T, hTg, rfl, rfl, K8, HB⟩ := hrel
    cases gk with
    | zero =>
      have hT : ¬ (((T + 1 : Nat) : Int) ≤ 17) := by omega
      obtain rfl : T = 17 := by omega
      have HE : Hid (rSumT 1 f 16 17 = rSum 1 f 16) := rSumT_all 1 HV.out 16 (by omega)
      clear hTg hT
      go_wp2_with fail
      go_ret2
      exact ⟨by rw [← HE.out]; rfl, HB.out⟩
    | succ g =>
      have HTT : Hid (rSumT 1 f 16 (T + 1) = rSumT 1 f 16 T + cntF f 16 (T + 1) * woF 1 ((T + 1 : Nat) : Int)) := rfl
      obtain ⟨p0, p1⟩ := rTerm_bd HR.out f 16 (by omega) (T + 1) (by omega) (by omega)
      obtain ⟨s0, s1⟩ := rSumT_bd HR.out f 16 (by omega) T (by omega)
      have s2 : rSumT 1 f 16 T ≤ 75497472 := by omega
      obtain ⟨U, hU⟩ : ∃ U, U = T + 1 := ⟨_, rfl⟩
      rw [← hU] at HTT p0 p1 ⊢
      have hU0 : (0 : Int) ≤ (U : Int) := by omega
      have hU1 : (U : Int) ≤ 17 := by omega
      have hU2 : (U : Int) < 18 := by omega
      have HU := Lib.hid hU
      have HW := Lib.hid (fun W => HWo.out (U : Int) W (by unfold TlOk; omega))
      generalize rSumT 1 f 16 T = S at *
      have HN : Hid (∃ n, cntF f 16 U = n) := ⟨_, rfl⟩
      generalize hn : cntF f 16 U = n at HTT p0 p1
      have HN := Lib.hid hn
      generalize woF 1 (U : Int) = v at *
      have ew : IntKind.i64.wrap (n * v) = n * v := IntWalk.i64_in _ (by omega)
      have ew2 : IntKind.i64.wrap (S + n * v) = S + n * v := IntWalk.i64_in _ (by omega)
      clear hU hn
      go_wp2_with fail
      refine wp_region_held_drew (S := fun W => Blk W b8 18 (cntF f 16) 77) (by kernel_rfl) (K8.drew) (fun hHeld => ?_)
      have K8 : Blk wr.drew b8 18 (cntF f 16) 77 := K8.drew
      have HB : Hid (Below w.heap.size w wr.drew) := HB.out.drew
      generalize wr.drew = x0 at *
      refine wpAnyH_take (i := 0) (oi := { dst := some 32, op := _, type := _, pos := _, after := _, guard := _ }) (v := .int .i64 S) rfl (by kernel_rfl) (by kernel_rfl) (by kernel_rfl) (fun _ _ _ h => h) (Or.inl ⟨by rfl, by intro w hSw; clear hSw; go_simp; (try with_reducible rfl)⟩) (by assumption) ?_
      try simp only [Act.put, List.setIfInBounds_toArray, List.set_cons_zero, List.set_cons_succ]
      refine wpAnyH_take (i := 1) (oi := { dst := some 33, op := _, type := _, pos := _, after := _, guard := _ }) (v := .int .i64 (U : Int)) rfl (by kernel_rfl) (by kernel_rfl) (by kernel_rfl) (fun _ _ _ h => h) (Or.inl ⟨by rfl, by intro w hSw; clear hSw; go_simp; (try with_reducible rfl)⟩) (by assumption) ?_
      try simp only [Act.put, List.setIfInBounds_toArray, List.set_cons_zero, List.set_cons_succ]
      refine wpAnyH_take (i := 2) (oi := { dst := some 34, op := _, type := _, pos := _, after := _, guard := _ }) (v := .pointer (some ⟨b8, U, none⟩)) rfl (by kernel_rfl) (by kernel_rfl) (by kernel_rfl) (fun _ _ _ h => h) (Or.inl ⟨by rfl, by intro w hSw; clear hSw; go_simp; (try with_reducible rfl)⟩) (by assumption) ?_
      try simp only [Act.put, List.setIfInBounds_toArray, List.set_cons_zero, List.set_cons_succ]
      refine wpAnyH_take (i := 3) (oi := { dst := some 35, op := _, type := _, pos := _, after := _, guard := _ }) (v := .int .i64 n) rfl (by kernel_rfl) (by kernel_rfl) (by kernel_rfl) (fun _ _ _ h => h) (Or.inl ⟨by rfl, by intro W hSw; have hc9 := hSw.cell (i := U) (by omega); rw [HN.out] at hc9; clear hSw; go_simp; (try with_reducible rfl)⟩) (by assumption) ?_
      try simp only [Act.put, List.setIfInBounds_toArray, List.set_cons_zero, List.set_cons_succ]
      refine wpAnyH_take (i := 4) (oi := { dst := some 36, op := _, type := _, pos := _, after := _, guard := _ }) (v := .iface 112 (.agg #[.iface 110 (.agg #[])])) rfl (by kernel_rfl) (by kernel_rfl) (by kernel_rfl) (fun _ _ _ h => h) (Or.inl ⟨by rfl, by intro w hSw; clear hSw; go_simp; (try with_reducible rfl)⟩) (by assumption) ?_
      try simp only [Act.put, List.setIfInBounds_toArray, List.set_cons_zero, List.set_cons_succ]
      refine wpAnyH_take (i := 5) (oi := { dst := some 37, op := _, type := _, pos := _, after := _, guard := _ }) (v := .int .i64 (U : Int)) rfl (by kernel_rfl) (by kernel_rfl) (by kernel_rfl) (fun _ _ _ h => h) (Or.inl ⟨by rfl, by intro w hSw; clear hSw; go_simp; (try with_reducible rfl)⟩) (by assumption) ?_
      try simp only [Act.put, List.setIfInBounds_toArray, List.set_cons_zero, List.set_cons_succ]
      refine wpAnyH_ready (rs := [6]) (by kernel_rfl) (by simp) ?_
      refine AllReadyH.cons rfl (fun K hK => ?_) AllReadyH.nil
      go_simp
      refine (HW.out _).mono ?_
      rintro e x1 ⟨rfl, hb⟩
      have K8 := K8.below hb K8.lt
      have HB : Hid (Below w.heap.size w x1) := HB.out.trans (hb.mono HB.out.size)
      clear hb
      go_wp2_with fail
      clear hHeld
      refine hK.out _ _ K8 (fun hHeld => ?_)
      clear hK K
      try simp only [Act.put, List.setIfInBounds_toArray, List.set_cons_zero, List.set_cons_succ]
      refine wpAnyH_take (i := 7) (oi := { dst := some 39, op := _, type := _, pos := _, after := _, guard := _ }) (v := .int .i64 (n * v)) rfl (by kernel_rfl) (by kernel_rfl) (by kernel_rfl) (fun _ _ _ h => h) (Or.inl ⟨by rfl, by intro W hSw; clear hSw; go_simp; first | done | exact ew⟩) (by assumption) ?_
      try simp only [Act.put, List.setIfInBounds_toArray, List.set_cons_zero, List.set_cons_succ]
      refine wpAnyH_take (i := 8) (oi := { dst := some 40, op := _, type := _, pos := _, after := _, guard := _ }) (v := .int .i64 (S + n * v)) rfl (by kernel_rfl) (by kernel_rfl) (by kernel_rfl) (fun _ _ _ h => h) (Or.inl ⟨by rfl, by intro W hSw; clear hSw; go_simp; first | done | exact ew2⟩) (by assumption) ?_
      try simp only [Act.put, List.setIfInBounds_toArray, List.set_cons_zero, List.set_cons_succ]
      refine wpAnyH_take (i := 9) (oi := { dst := some 10, op := _, type := _, pos := _, after := _, guard := _ }) (v := .int .i64 (S + n * v)) rfl (by kernel_rfl) (by kernel_rfl) (by kernel_rfl) (fun _ _ _ h => h) (Or.inl ⟨by rfl, by intro w hSw; clear hSw; go_simp; (try with_reducible rfl)⟩) (by assumption) ?_
      try simp only [Act.put, List.setIfInBounds_toArray, List.set_cons_zero, List.set_cons_succ]
      refine wpAnyH_done (by kernel_rfl) ?_ _
      clear hHeld ew ew2
      go_wp2_with fail
      go_roundg g
      case rel => exact ⟨U, by have := HU.out; omega, by go_num, by rw [HTT.out], K8, HB⟩
      case measure => omega
set_option maxHeartbeats 2000000 in
set_option maxRecDepth 20000 in
theorem implSumYes_2 (f : Nat → Int) (w : World) (hV : Vd f) :
    Calls Try.prog 36 #[.agg (mk 16 f), .int .i64 2] w fun e w' => e = .returned (.tuple #[.int .i64 (rSum 2 f 16), .bool true]) ∧ Below w.heap.size w w' := by
  have z18 := zero18
  have K1 := Blk.new w 16 f 37
  have HB := Lib.hid ((Below.refl w.heap.size w).alloc (Nat.le_refl _) (.cells (mk 16 f) 37))
  have HV := Lib.hid hV
  have HR : Hid (RlOk 2) := by show RlOk 2; decide
  have CL : Hid (∀ W, Calls Try.prog 51 #[.int .i64 2] W fun e w' => e = .returned (.tuple #[.iface 112 (.agg #[.iface 113 (.agg #[])]), .bool true]) ∧ Below W.heap.size W w') := fun W => lawOf_at 2 W (by decide)
  have HWo : Hid (∀ t W, TlOk t → Calls Try.prog 145 #[.agg #[], .int .i64 t] W fun e w' => e = .returned (.int .i64 (woF 2 t)) ∧ Below W.heap.size W w') := fun t W ht => followingW t W ht
  have CC : Hid (∀ W, Calls Try.prog 66 #[.agg (mk 16 f)] W fun e w' => e = .returned (.tuple #[.agg (mk 18 (cntF f 16)), .bool true]) ∧ Below W.heap.size W w') := by
    intro W
    have := implCount_any f W
    rw [cntR_yes hV, vdO_yes hV] at this
    exact this
  clear hV
  go_enter Try.func36, Try.ntmps36
  go_wp2_with fail
  refine (CL.out _).mono ?_
  rintro e w1 ⟨rfl, hb⟩
  have K1 := K1.below hb K1.lt
  have HB : Hid (Below w.heap.size w w1) := HB.out.trans (hb.mono HB.out.size)
  clear hb
  go_wp2_with ((with_reducible show wpList _ _ _ (Oper.mk _ (Op.load 37 _) _ _ _ _ :: _) _ _); refine loadB (K1) rfl rfl rfl ?_)
  refine (CC.out _).mono ?_
  rintro e w2 ⟨rfl, hb⟩
  have HB : Hid (Below w.heap.size w w2) := HB.out.trans (hb.mono HB.out.size)
  have HB : Hid (Below w.heap.size w (w2.alloc (.cells (mk 18 (cntF f 16)) 77))) := HB.out.alloc HB.out.size _
  have K8 := Blk.new w2 18 (cntF f 16) 77
  clear hb K1
  go_wp2_with fail
  generalize w2.alloc (.cells (mk 18 (cntF f 16)) 77) = w3 at *
  generalize w2.heap.size = b8 at *
  go_loopg [11, 10] 17 (fun g s11 s10 wr => ∃ T : Nat, T + g = 17 ∧ s11 = .int .i64 ((T + 1 : Nat) : Int) ∧ s10 = .int .i64 (rSumT 2 f 16 T) ∧ Blk wr b8 18 (cntF f 16) 77 ∧ Hid (Below w.heap.size w wr))
  case atStart => exact ⟨0, by omega, rfl, rfl, K8, HB⟩
  case round =>
    clear K8 HB
    obtain ⟨T, hTg, rfl, rfl, K8, HB⟩ := hrel
    cases gk with
    | zero =>
      have hT : ¬ (((T + 1 : Nat) : Int) ≤ 17) := by omega
      obtain rfl : T = 17 := by omega
      have HE : Hid (rSumT 2 f 16 17 = rSum 2 f 16) := rSumT_all 2 HV.out 16 (by omega)
      clear hTg hT
      go_wp2_with fail
      go_ret2
      exact ⟨by rw [← HE.out]; rfl, HB.out⟩
    | succ g =>
      have HTT : Hid (rSumT 2 f 16 (T + 1) = rSumT 2 f 16 T + cntF f 16 (T + 1) * woF 2 ((T + 1 : Nat) : Int)) := rfl
      obtain ⟨p0, p1⟩ := rTerm_bd HR.out f 16 (by omega) (T + 1) (by omega) (by omega)
      obtain ⟨s0, s1⟩ := rSumT_bd HR.out f 16 (by omega) T (by omega)
      have s2 : rSumT 2 f 16 T ≤ 75497472 := by omega
      obtain ⟨U, hU⟩ : ∃ U, U = T + 1 := ⟨_, rfl⟩
      rw [← hU] at HTT p0 p1 ⊢
      have hU0 : (0 : Int) ≤ (U : Int) := by omega
      have hU1 : (U : Int) ≤ 17 := by omega
      have hU2 : (U : Int) < 18 := by omega
      have HU := Lib.hid hU
      have HW := Lib.hid (fun W => HWo.out (U : Int) W (by unfold TlOk; omega))
      generalize rSumT 2 f 16 T = S at *
      have HN : Hid (∃ n, cntF f 16 U = n) := ⟨_, rfl⟩
      generalize hn : cntF f 16 U = n at HTT p0 p1
      have HN := Lib.hid hn
      generalize woF 2 (U : Int) = v at *
      have ew : IntKind.i64.wrap (n * v) = n * v := IntWalk.i64_in _ (by omega)
      have ew2 : IntKind.i64.wrap (S + n * v) = S + n * v := IntWalk.i64_in _ (by omega)
      clear hU hn
      go_wp2_with fail
      refine wp_region_held_drew (S := fun W => Blk W b8 18 (cntF f 16) 77) (by kernel_rfl) (K8.drew) (fun hHeld => ?_)
      have K8 : Blk wr.drew b8 18 (cntF f 16) 77 := K8.drew
      have HB : Hid (Below w.heap.size w wr.drew) := HB.out.drew
      generalize wr.drew = x0 at *
      refine wpAnyH_take (i := 0) (oi := { dst := some 32, op := _, type := _, pos := _, after := _, guard := _ }) (v := .int .i64 S) rfl (by kernel_rfl) (by kernel_rfl) (by kernel_rfl) (fun _ _ _ h => h) (Or.inl ⟨by rfl, by intro w hSw; clear hSw; go_simp; (try with_reducible rfl)⟩) (by assumption) ?_
      try simp only [Act.put, List.setIfInBounds_toArray, List.set_cons_zero, List.set_cons_succ]
      refine wpAnyH_take (i := 1) (oi := { dst := some 33, op := _, type := _, pos := _, after := _, guard := _ }) (v := .int .i64 (U : Int)) rfl (by kernel_rfl) (by kernel_rfl) (by kernel_rfl) (fun _ _ _ h => h) (Or.inl ⟨by rfl, by intro w hSw; clear hSw; go_simp; (try with_reducible rfl)⟩) (by assumption) ?_
      try simp only [Act.put, List.setIfInBounds_toArray, List.set_cons_zero, List.set_cons_succ]
      refine wpAnyH_take (i := 2) (oi := { dst := some 34, op := _, type := _, pos := _, after := _, guard := _ }) (v := .pointer (some ⟨b8, U, none⟩)) rfl (by kernel_rfl) (by kernel_rfl) (by kernel_rfl) (fun _ _ _ h => h) (Or.inl ⟨by rfl, by intro w hSw; clear hSw; go_simp; (try with_reducible rfl)⟩) (by assumption) ?_
      try simp only [Act.put, List.setIfInBounds_toArray, List.set_cons_zero, List.set_cons_succ]
      refine wpAnyH_take (i := 3) (oi := { dst := some 35, op := _, type := _, pos := _, after := _, guard := _ }) (v := .int .i64 n) rfl (by kernel_rfl) (by kernel_rfl) (by kernel_rfl) (fun _ _ _ h => h) (Or.inl ⟨by rfl, by intro W hSw; have hc9 := hSw.cell (i := U) (by omega); rw [HN.out] at hc9; clear hSw; go_simp; (try with_reducible rfl)⟩) (by assumption) ?_
      try simp only [Act.put, List.setIfInBounds_toArray, List.set_cons_zero, List.set_cons_succ]
      refine wpAnyH_take (i := 4) (oi := { dst := some 36, op := _, type := _, pos := _, after := _, guard := _ }) (v := .iface 112 (.agg #[.iface 113 (.agg #[])])) rfl (by kernel_rfl) (by kernel_rfl) (by kernel_rfl) (fun _ _ _ h => h) (Or.inl ⟨by rfl, by intro w hSw; clear hSw; go_simp; (try with_reducible rfl)⟩) (by assumption) ?_
      try simp only [Act.put, List.setIfInBounds_toArray, List.set_cons_zero, List.set_cons_succ]
      refine wpAnyH_take (i := 5) (oi := { dst := some 37, op := _, type := _, pos := _, after := _, guard := _ }) (v := .int .i64 (U : Int)) rfl (by kernel_rfl) (by kernel_rfl) (by kernel_rfl) (fun _ _ _ h => h) (Or.inl ⟨by rfl, by intro w hSw; clear hSw; go_simp; (try with_reducible rfl)⟩) (by assumption) ?_
      try simp only [Act.put, List.setIfInBounds_toArray, List.set_cons_zero, List.set_cons_succ]
      refine wpAnyH_ready (rs := [6]) (by kernel_rfl) (by simp) ?_
      refine AllReadyH.cons rfl (fun K hK => ?_) AllReadyH.nil
      go_simp
      refine (HW.out _).mono ?_
      rintro e x1 ⟨rfl, hb⟩
      have K8 := K8.below hb K8.lt
      have HB : Hid (Below w.heap.size w x1) := HB.out.trans (hb.mono HB.out.size)
      clear hb
      go_wp2_with fail
      clear hHeld
      refine hK.out _ _ K8 (fun hHeld => ?_)
      clear hK K
      try simp only [Act.put, List.setIfInBounds_toArray, List.set_cons_zero, List.set_cons_succ]
      refine wpAnyH_take (i := 7) (oi := { dst := some 39, op := _, type := _, pos := _, after := _, guard := _ }) (v := .int .i64 (n * v)) rfl (by kernel_rfl) (by kernel_rfl) (by kernel_rfl) (fun _ _ _ h => h) (Or.inl ⟨by rfl, by intro W hSw; clear hSw; go_simp; first | done | exact ew⟩) (by assumption) ?_
      try simp only [Act.put, List.setIfInBounds_toArray, List.set_cons_zero, List.set_cons_succ]
      refine wpAnyH_take (i := 8) (oi := { dst := some 40, op := _, type := _, pos := _, after := _, guard := _ }) (v := .int .i64 (S + n * v)) rfl (by kernel_rfl) (by kernel_rfl) (by kernel_rfl) (fun _ _ _ h => h) (Or.inl ⟨by rfl, by intro W hSw; clear hSw; go_simp; first | done | exact ew2⟩) (by assumption) ?_
      try simp only [Act.put, List.setIfInBounds_toArray, List.set_cons_zero, List.set_cons_succ]
      refine wpAnyH_take (i := 9) (oi := { dst := some 10, op := _, type := _, pos := _, after := _, guard := _ }) (v := .int .i64 (S + n * v)) rfl (by kernel_rfl) (by kernel_rfl) (by kernel_rfl) (fun _ _ _ h => h) (Or.inl ⟨by rfl, by intro w hSw; clear hSw; go_simp; (try with_reducible rfl)⟩) (by assumption) ?_
      try simp only [Act.put, List.setIfInBounds_toArray, List.set_cons_zero, List.set_cons_succ]
      refine wpAnyH_done (by kernel_rfl) ?_ _
      clear hHeld ew ew2
      go_wp2_with fail
      go_roundg g
      case rel => exact ⟨U, by have := HU.out; omega, by go_num, by rw [HTT.out], K8, HB⟩
      case measure => omega
set_option maxHeartbeats 2000000 in
set_option maxRecDepth 20000 in
theorem implSumYes_3 (f : Nat → Int) (w : World) (hV : Vd f) :
    Calls Try.prog 36 #[.agg (mk 16 f), .int .i64 3] w fun e w' => e = .returned (.tuple #[.int .i64 (rSum 3 f 16), .bool true]) ∧ Below w.heap.size w w' := by
  have z18 := zero18
  have K1 := Blk.new w 16 f 37
  have HB := Lib.hid ((Below.refl w.heap.size w).alloc (Nat.le_refl _) (.cells (mk 16 f) 37))
  have HV := Lib.hid hV
  have HR : Hid (RlOk 3) := by show RlOk 3; decide
  have CL : Hid (∀ W, Calls Try.prog 51 #[.int .i64 3] W fun e w' => e = .returned (.tuple #[.iface 112 (.agg #[.iface 114 (.agg #[])]), .bool true]) ∧ Below W.heap.size W w') := fun W => lawOf_at 3 W (by decide)
  have HWo : Hid (∀ t W, TlOk t → Calls Try.prog 147 #[.agg #[], .int .i64 t] W fun e w' => e = .returned (.int .i64 (woF 3 t)) ∧ Below W.heap.size W w') := fun t W ht => triplingW t W ht
  have CC : Hid (∀ W, Calls Try.prog 66 #[.agg (mk 16 f)] W fun e w' => e = .returned (.tuple #[.agg (mk 18 (cntF f 16)), .bool true]) ∧ Below W.heap.size W w') := by
    intro W
    have := implCount_any f W
    rw [cntR_yes hV, vdO_yes hV] at this
    exact this
  clear hV
  go_enter Try.func36, Try.ntmps36
  go_wp2_with fail
  refine (CL.out _).mono ?_
  rintro e w1 ⟨rfl, hb⟩
  have K1 := K1.below hb K1.lt
  have HB : Hid (Below w.heap.size w w1) := HB.out.trans (hb.mono HB.out.size)
  clear hb
  go_wp2_with ((with_reducible show wpList _ _ _ (Oper.mk _ (Op.load 37 _) _ _ _ _ :: _) _ _); refine loadB (K1) rfl rfl rfl ?_)
  refine (CC.out _).mono ?_
  rintro e w2 ⟨rfl, hb⟩
  have HB : Hid (Below w.heap.size w w2) := HB.out.trans (hb.mono HB.out.size)
  have HB : Hid (Below w.heap.size w (w2.alloc (.cells (mk 18 (cntF f 16)) 77))) := HB.out.alloc HB.out.size _
  have K8 := Blk.new w2 18 (cntF f 16) 77
  clear hb K1
  go_wp2_with fail
  generalize w2.alloc (.cells (mk 18 (cntF f 16)) 77) = w3 at *
  generalize w2.heap.size = b8 at *
  go_loopg [11, 10] 17 (fun g s11 s10 wr => ∃ T : Nat, T + g = 17 ∧ s11 = .int .i64 ((T + 1 : Nat) : Int) ∧ s10 = .int .i64 (rSumT 3 f 16 T) ∧ Blk wr b8 18 (cntF f 16) 77 ∧ Hid (Below w.heap.size w wr))
  case atStart => exact ⟨0, by omega, rfl, rfl, K8, HB⟩
  case round =>
    clear K8 HB
    obtain ⟨T, hTg, rfl, rfl, K8, HB⟩ := hrel
    cases gk with
    | zero =>
      have hT : ¬ (((T + 1 : Nat) : Int) ≤ 17) := by omega
      obtain rfl : T = 17 := by omega
      have HE : Hid (rSumT 3 f 16 17 = rSum 3 f 16) := rSumT_all 3 HV.out 16 (by omega)
      clear hTg hT
      go_wp2_with fail
      go_ret2
      exact ⟨by rw [← HE.out]; rfl, HB.out⟩
    | succ g =>
      have HTT : Hid (rSumT 3 f 16 (T + 1) = rSumT 3 f 16 T + cntF f 16 (T + 1) * woF 3 ((T + 1 : Nat) : Int)) := rfl
      obtain ⟨p0, p1⟩ := rTerm_bd HR.out f 16 (by omega) (T + 1) (by omega) (by omega)
      obtain ⟨s0, s1⟩ := rSumT_bd HR.out f 16 (by omega) T (by omega)
      have s2 : rSumT 3 f 16 T ≤ 75497472 := by omega
      obtain ⟨U, hU⟩ : ∃ U, U = T + 1 := ⟨_, rfl⟩
      rw [← hU] at HTT p0 p1 ⊢
      have hU0 : (0 : Int) ≤ (U : Int) := by omega
      have hU1 : (U : Int) ≤ 17 := by omega
      have hU2 : (U : Int) < 18 := by omega
      have HU := Lib.hid hU
      have HW := Lib.hid (fun W => HWo.out (U : Int) W (by unfold TlOk; omega))
      generalize rSumT 3 f 16 T = S at *
      have HN : Hid (∃ n, cntF f 16 U = n) := ⟨_, rfl⟩
      generalize hn : cntF f 16 U = n at HTT p0 p1
      have HN := Lib.hid hn
      generalize woF 3 (U : Int) = v at *
      have ew : IntKind.i64.wrap (n * v) = n * v := IntWalk.i64_in _ (by omega)
      have ew2 : IntKind.i64.wrap (S + n * v) = S + n * v := IntWalk.i64_in _ (by omega)
      clear hU hn
      go_wp2_with fail
      refine wp_region_held_drew (S := fun W => Blk W b8 18 (cntF f 16) 77) (by kernel_rfl) (K8.drew) (fun hHeld => ?_)
      have K8 : Blk wr.drew b8 18 (cntF f 16) 77 := K8.drew
      have HB : Hid (Below w.heap.size w wr.drew) := HB.out.drew
      generalize wr.drew = x0 at *
      refine wpAnyH_take (i := 0) (oi := { dst := some 32, op := _, type := _, pos := _, after := _, guard := _ }) (v := .int .i64 S) rfl (by kernel_rfl) (by kernel_rfl) (by kernel_rfl) (fun _ _ _ h => h) (Or.inl ⟨by rfl, by intro w hSw; clear hSw; go_simp; (try with_reducible rfl)⟩) (by assumption) ?_
      try simp only [Act.put, List.setIfInBounds_toArray, List.set_cons_zero, List.set_cons_succ]
      refine wpAnyH_take (i := 1) (oi := { dst := some 33, op := _, type := _, pos := _, after := _, guard := _ }) (v := .int .i64 (U : Int)) rfl (by kernel_rfl) (by kernel_rfl) (by kernel_rfl) (fun _ _ _ h => h) (Or.inl ⟨by rfl, by intro w hSw; clear hSw; go_simp; (try with_reducible rfl)⟩) (by assumption) ?_
      try simp only [Act.put, List.setIfInBounds_toArray, List.set_cons_zero, List.set_cons_succ]
      refine wpAnyH_take (i := 2) (oi := { dst := some 34, op := _, type := _, pos := _, after := _, guard := _ }) (v := .pointer (some ⟨b8, U, none⟩)) rfl (by kernel_rfl) (by kernel_rfl) (by kernel_rfl) (fun _ _ _ h => h) (Or.inl ⟨by rfl, by intro w hSw; clear hSw; go_simp; (try with_reducible rfl)⟩) (by assumption) ?_
      try simp only [Act.put, List.setIfInBounds_toArray, List.set_cons_zero, List.set_cons_succ]
      refine wpAnyH_take (i := 3) (oi := { dst := some 35, op := _, type := _, pos := _, after := _, guard := _ }) (v := .int .i64 n) rfl (by kernel_rfl) (by kernel_rfl) (by kernel_rfl) (fun _ _ _ h => h) (Or.inl ⟨by rfl, by intro W hSw; have hc9 := hSw.cell (i := U) (by omega); rw [HN.out] at hc9; clear hSw; go_simp; (try with_reducible rfl)⟩) (by assumption) ?_
      try simp only [Act.put, List.setIfInBounds_toArray, List.set_cons_zero, List.set_cons_succ]
      refine wpAnyH_take (i := 4) (oi := { dst := some 36, op := _, type := _, pos := _, after := _, guard := _ }) (v := .iface 112 (.agg #[.iface 114 (.agg #[])])) rfl (by kernel_rfl) (by kernel_rfl) (by kernel_rfl) (fun _ _ _ h => h) (Or.inl ⟨by rfl, by intro w hSw; clear hSw; go_simp; (try with_reducible rfl)⟩) (by assumption) ?_
      try simp only [Act.put, List.setIfInBounds_toArray, List.set_cons_zero, List.set_cons_succ]
      refine wpAnyH_take (i := 5) (oi := { dst := some 37, op := _, type := _, pos := _, after := _, guard := _ }) (v := .int .i64 (U : Int)) rfl (by kernel_rfl) (by kernel_rfl) (by kernel_rfl) (fun _ _ _ h => h) (Or.inl ⟨by rfl, by intro w hSw; clear hSw; go_simp; (try with_reducible rfl)⟩) (by assumption) ?_
      try simp only [Act.put, List.setIfInBounds_toArray, List.set_cons_zero, List.set_cons_succ]
      refine wpAnyH_ready (rs := [6]) (by kernel_rfl) (by simp) ?_
      refine AllReadyH.cons rfl (fun K hK => ?_) AllReadyH.nil
      go_simp
      refine (HW.out _).mono ?_
      rintro e x1 ⟨rfl, hb⟩
      have K8 := K8.below hb K8.lt
      have HB : Hid (Below w.heap.size w x1) := HB.out.trans (hb.mono HB.out.size)
      clear hb
      go_wp2_with fail
      clear hHeld
      refine hK.out _ _ K8 (fun hHeld => ?_)
      clear hK K
      try simp only [Act.put, List.setIfInBounds_toArray, List.set_cons_zero, List.set_cons_succ]
      refine wpAnyH_take (i := 7) (oi := { dst := some 39, op := _, type := _, pos := _, after := _, guard := _ }) (v := .int .i64 (n * v)) rfl (by kernel_rfl) (by kernel_rfl) (by kernel_rfl) (fun _ _ _ h => h) (Or.inl ⟨by rfl, by intro W hSw; clear hSw; go_simp; first | done | exact ew⟩) (by assumption) ?_
      try simp only [Act.put, List.setIfInBounds_toArray, List.set_cons_zero, List.set_cons_succ]
      refine wpAnyH_take (i := 8) (oi := { dst := some 40, op := _, type := _, pos := _, after := _, guard := _ }) (v := .int .i64 (S + n * v)) rfl (by kernel_rfl) (by kernel_rfl) (by kernel_rfl) (fun _ _ _ h => h) (Or.inl ⟨by rfl, by intro W hSw; clear hSw; go_simp; first | done | exact ew2⟩) (by assumption) ?_
      try simp only [Act.put, List.setIfInBounds_toArray, List.set_cons_zero, List.set_cons_succ]
      refine wpAnyH_take (i := 9) (oi := { dst := some 10, op := _, type := _, pos := _, after := _, guard := _ }) (v := .int .i64 (S + n * v)) rfl (by kernel_rfl) (by kernel_rfl) (by kernel_rfl) (fun _ _ _ h => h) (Or.inl ⟨by rfl, by intro w hSw; clear hSw; go_simp; (try with_reducible rfl)⟩) (by assumption) ?_
      try simp only [Act.put, List.setIfInBounds_toArray, List.set_cons_zero, List.set_cons_succ]
      refine wpAnyH_done (by kernel_rfl) ?_ _
      clear hHeld ew ew2
      go_wp2_with fail
      go_roundg g
      case rel => exact ⟨U, by have := HU.out; omega, by go_num, by rw [HTT.out], K8, HB⟩
      case measure => omega
set_option maxHeartbeats 2000000 in
set_option maxRecDepth 20000 in
theorem implSumYes_4 (f : Nat → Int) (w : World) (hV : Vd f) :
    Calls Try.prog 36 #[.agg (mk 16 f), .int .i64 4] w fun e w' => e = .returned (.tuple #[.int .i64 (rSum 4 f 16), .bool true]) ∧ Below w.heap.size w w' := by
  have z18 := zero18
  have K1 := Blk.new w 16 f 37
  have HB := Lib.hid ((Below.refl w.heap.size w).alloc (Nat.le_refl _) (.cells (mk 16 f) 37))
  have HV := Lib.hid hV
  have HR : Hid (RlOk 4) := by show RlOk 4; decide
  have CL : Hid (∀ W, Calls Try.prog 51 #[.int .i64 4] W fun e w' => e = .returned (.tuple #[.iface 112 (.agg #[.iface 115 (.agg #[])]), .bool true]) ∧ Below W.heap.size W w') := fun W => lawOf_at 4 W (by decide)
  have HWo : Hid (∀ t W, TlOk t → Calls Try.prog 149 #[.agg #[], .int .i64 t] W fun e w' => e = .returned (.int .i64 (woF 4 t)) ∧ Below W.heap.size W w') := fun t W ht => addingW t W ht
  have CC : Hid (∀ W, Calls Try.prog 66 #[.agg (mk 16 f)] W fun e w' => e = .returned (.tuple #[.agg (mk 18 (cntF f 16)), .bool true]) ∧ Below W.heap.size W w') := by
    intro W
    have := implCount_any f W
    rw [cntR_yes hV, vdO_yes hV] at this
    exact this
  clear hV
  go_enter Try.func36, Try.ntmps36
  go_wp2_with fail
  refine (CL.out _).mono ?_
  rintro e w1 ⟨rfl, hb⟩
  have K1 := K1.below hb K1.lt
  have HB : Hid (Below w.heap.size w w1) := HB.out.trans (hb.mono HB.out.size)
  clear hb
  go_wp2_with ((with_reducible show wpList _ _ _ (Oper.mk _ (Op.load 37 _) _ _ _ _ :: _) _ _); refine loadB (K1) rfl rfl rfl ?_)
  refine (CC.out _).mono ?_
  rintro e w2 ⟨rfl, hb⟩
  have HB : Hid (Below w.heap.size w w2) := HB.out.trans (hb.mono HB.out.size)
  have HB : Hid (Below w.heap.size w (w2.alloc (.cells (mk 18 (cntF f 16)) 77))) := HB.out.alloc HB.out.size _
  have K8 := Blk.new w2 18 (cntF f 16) 77
  clear hb K1
  go_wp2_with fail
  generalize w2.alloc (.cells (mk 18 (cntF f 16)) 77) = w3 at *
  generalize w2.heap.size = b8 at *
  go_loopg [11, 10] 17 (fun g s11 s10 wr => ∃ T : Nat, T + g = 17 ∧ s11 = .int .i64 ((T + 1 : Nat) : Int) ∧ s10 = .int .i64 (rSumT 4 f 16 T) ∧ Blk wr b8 18 (cntF f 16) 77 ∧ Hid (Below w.heap.size w wr))
  case atStart => exact ⟨0, by omega, rfl, rfl, K8, HB⟩
  case round =>
    clear K8 HB
    obtain ⟨T, hTg, rfl, rfl, K8, HB⟩ := hrel
    cases gk with
    | zero =>
      have hT : ¬ (((T + 1 : Nat) : Int) ≤ 17) := by omega
      obtain rfl : T = 17 := by omega
      have HE : Hid (rSumT 4 f 16 17 = rSum 4 f 16) := rSumT_all 4 HV.out 16 (by omega)
      clear hTg hT
      go_wp2_with fail
      go_ret2
      exact ⟨by rw [← HE.out]; rfl, HB.out⟩
    | succ g =>
      have HTT : Hid (rSumT 4 f 16 (T + 1) = rSumT 4 f 16 T + cntF f 16 (T + 1) * woF 4 ((T + 1 : Nat) : Int)) := rfl
      obtain ⟨p0, p1⟩ := rTerm_bd HR.out f 16 (by omega) (T + 1) (by omega) (by omega)
      obtain ⟨s0, s1⟩ := rSumT_bd HR.out f 16 (by omega) T (by omega)
      have s2 : rSumT 4 f 16 T ≤ 75497472 := by omega
      obtain ⟨U, hU⟩ : ∃ U, U = T + 1 := ⟨_, rfl⟩
      rw [← hU] at HTT p0 p1 ⊢
      have hU0 : (0 : Int) ≤ (U : Int) := by omega
      have hU1 : (U : Int) ≤ 17 := by omega
      have hU2 : (U : Int) < 18 := by omega
      have HU := Lib.hid hU
      have HW := Lib.hid (fun W => HWo.out (U : Int) W (by unfold TlOk; omega))
      generalize rSumT 4 f 16 T = S at *
      have HN : Hid (∃ n, cntF f 16 U = n) := ⟨_, rfl⟩
      generalize hn : cntF f 16 U = n at HTT p0 p1
      have HN := Lib.hid hn
      generalize woF 4 (U : Int) = v at *
      have ew : IntKind.i64.wrap (n * v) = n * v := IntWalk.i64_in _ (by omega)
      have ew2 : IntKind.i64.wrap (S + n * v) = S + n * v := IntWalk.i64_in _ (by omega)
      clear hU hn
      go_wp2_with fail
      refine wp_region_held_drew (S := fun W => Blk W b8 18 (cntF f 16) 77) (by kernel_rfl) (K8.drew) (fun hHeld => ?_)
      have K8 : Blk wr.drew b8 18 (cntF f 16) 77 := K8.drew
      have HB : Hid (Below w.heap.size w wr.drew) := HB.out.drew
      generalize wr.drew = x0 at *
      refine wpAnyH_take (i := 0) (oi := { dst := some 32, op := _, type := _, pos := _, after := _, guard := _ }) (v := .int .i64 S) rfl (by kernel_rfl) (by kernel_rfl) (by kernel_rfl) (fun _ _ _ h => h) (Or.inl ⟨by rfl, by intro w hSw; clear hSw; go_simp; (try with_reducible rfl)⟩) (by assumption) ?_
      try simp only [Act.put, List.setIfInBounds_toArray, List.set_cons_zero, List.set_cons_succ]
      refine wpAnyH_take (i := 1) (oi := { dst := some 33, op := _, type := _, pos := _, after := _, guard := _ }) (v := .int .i64 (U : Int)) rfl (by kernel_rfl) (by kernel_rfl) (by kernel_rfl) (fun _ _ _ h => h) (Or.inl ⟨by rfl, by intro w hSw; clear hSw; go_simp; (try with_reducible rfl)⟩) (by assumption) ?_
      try simp only [Act.put, List.setIfInBounds_toArray, List.set_cons_zero, List.set_cons_succ]
      refine wpAnyH_take (i := 2) (oi := { dst := some 34, op := _, type := _, pos := _, after := _, guard := _ }) (v := .pointer (some ⟨b8, U, none⟩)) rfl (by kernel_rfl) (by kernel_rfl) (by kernel_rfl) (fun _ _ _ h => h) (Or.inl ⟨by rfl, by intro w hSw; clear hSw; go_simp; (try with_reducible rfl)⟩) (by assumption) ?_
      try simp only [Act.put, List.setIfInBounds_toArray, List.set_cons_zero, List.set_cons_succ]
      refine wpAnyH_take (i := 3) (oi := { dst := some 35, op := _, type := _, pos := _, after := _, guard := _ }) (v := .int .i64 n) rfl (by kernel_rfl) (by kernel_rfl) (by kernel_rfl) (fun _ _ _ h => h) (Or.inl ⟨by rfl, by intro W hSw; have hc9 := hSw.cell (i := U) (by omega); rw [HN.out] at hc9; clear hSw; go_simp; (try with_reducible rfl)⟩) (by assumption) ?_
      try simp only [Act.put, List.setIfInBounds_toArray, List.set_cons_zero, List.set_cons_succ]
      refine wpAnyH_take (i := 4) (oi := { dst := some 36, op := _, type := _, pos := _, after := _, guard := _ }) (v := .iface 112 (.agg #[.iface 115 (.agg #[])])) rfl (by kernel_rfl) (by kernel_rfl) (by kernel_rfl) (fun _ _ _ h => h) (Or.inl ⟨by rfl, by intro w hSw; clear hSw; go_simp; (try with_reducible rfl)⟩) (by assumption) ?_
      try simp only [Act.put, List.setIfInBounds_toArray, List.set_cons_zero, List.set_cons_succ]
      refine wpAnyH_take (i := 5) (oi := { dst := some 37, op := _, type := _, pos := _, after := _, guard := _ }) (v := .int .i64 (U : Int)) rfl (by kernel_rfl) (by kernel_rfl) (by kernel_rfl) (fun _ _ _ h => h) (Or.inl ⟨by rfl, by intro w hSw; clear hSw; go_simp; (try with_reducible rfl)⟩) (by assumption) ?_
      try simp only [Act.put, List.setIfInBounds_toArray, List.set_cons_zero, List.set_cons_succ]
      refine wpAnyH_ready (rs := [6]) (by kernel_rfl) (by simp) ?_
      refine AllReadyH.cons rfl (fun K hK => ?_) AllReadyH.nil
      go_simp
      refine (HW.out _).mono ?_
      rintro e x1 ⟨rfl, hb⟩
      have K8 := K8.below hb K8.lt
      have HB : Hid (Below w.heap.size w x1) := HB.out.trans (hb.mono HB.out.size)
      clear hb
      go_wp2_with fail
      clear hHeld
      refine hK.out _ _ K8 (fun hHeld => ?_)
      clear hK K
      try simp only [Act.put, List.setIfInBounds_toArray, List.set_cons_zero, List.set_cons_succ]
      refine wpAnyH_take (i := 7) (oi := { dst := some 39, op := _, type := _, pos := _, after := _, guard := _ }) (v := .int .i64 (n * v)) rfl (by kernel_rfl) (by kernel_rfl) (by kernel_rfl) (fun _ _ _ h => h) (Or.inl ⟨by rfl, by intro W hSw; clear hSw; go_simp; first | done | exact ew⟩) (by assumption) ?_
      try simp only [Act.put, List.setIfInBounds_toArray, List.set_cons_zero, List.set_cons_succ]
      refine wpAnyH_take (i := 8) (oi := { dst := some 40, op := _, type := _, pos := _, after := _, guard := _ }) (v := .int .i64 (S + n * v)) rfl (by kernel_rfl) (by kernel_rfl) (by kernel_rfl) (fun _ _ _ h => h) (Or.inl ⟨by rfl, by intro W hSw; clear hSw; go_simp; first | done | exact ew2⟩) (by assumption) ?_
      try simp only [Act.put, List.setIfInBounds_toArray, List.set_cons_zero, List.set_cons_succ]
      refine wpAnyH_take (i := 9) (oi := { dst := some 10, op := _, type := _, pos := _, after := _, guard := _ }) (v := .int .i64 (S + n * v)) rfl (by kernel_rfl) (by kernel_rfl) (by kernel_rfl) (fun _ _ _ h => h) (Or.inl ⟨by rfl, by intro w hSw; clear hSw; go_simp; (try with_reducible rfl)⟩) (by assumption) ?_
      try simp only [Act.put, List.setIfInBounds_toArray, List.set_cons_zero, List.set_cons_succ]
      refine wpAnyH_done (by kernel_rfl) ?_ _
      clear hHeld ew ew2
      go_wp2_with fail
      go_roundg g
      case rel => exact ⟨U, by have := HU.out; omega, by go_num, by rw [HTT.out], K8, HB⟩
      case measure => omega
set_option maxHeartbeats 2000000 in
set_option maxRecDepth 20000 in
theorem implSumBy_any (f : Nat → Int) (r : Int) (w : World) :
    Calls Try.prog 36 #[.agg (mk 16 f), .int .i64 r] w fun e w' => e = .returned (.tuple #[.int .i64 (rSR f r), .bool (rbO f r)]) ∧ Below w.heap.size w w' := by
  have K1 := Blk.new w 16 f 37
  have z18 := zero18
  have HB := Lib.hid ((Below.refl w.heap.size w).alloc (Nat.le_refl _) (.cells (mk 16 f) 37))
  by_cases hR : RlOk r
  · by_cases hV : Vd f
    · rw [(rm_yes (f := f) (r := r) ⟨hV, hR⟩).2.1, rSR_yes (f := f) (r := r) ⟨hV, hR⟩]
      obtain ⟨h0, h1⟩ := hR
      rcases (by omega : r = 1 ∨ r = 2 ∨ r = 3 ∨ r = 4) with rfl | rfl | rfl | rfl
      · exact implSumYes_1 f w hV
      · exact implSumYes_2 f w hV
      · exact implSumYes_3 f w hV
      · exact implSumYes_4 f w hV
    · rw [(rm_no (f := f) (r := r) fun h => hV h.1).2.1, rSR_no (f := f) (r := r) fun h => hV h.1]
      have CL : Hid (∀ W, Calls Try.prog 51 #[.int .i64 r] W fun e w' => e = .returned (.tuple #[.iface 112 (.agg #[inR r]), .bool true]) ∧ Below W.heap.size W w') := fun W => lawOf_at r W hR
      generalize inR r = x at *
      have CC : Hid (∀ W, Calls Try.prog 66 #[.agg (mk 16 f)] W fun e w' => e = .returned (.tuple #[.agg (mk 18 fun _ => 0), .bool false]) ∧ Below W.heap.size W w') := by
        intro W
        have := implCount_any f W
        rw [cntR_no hV, vdO_no hV] at this
        exact this
      clear hV hR
      go_enter Try.func36, Try.ntmps36
      go_wp2_with fail
      refine (CL.out _).mono ?_
      rintro e w1 ⟨rfl, hb⟩
      have K1 := K1.below hb K1.lt
      have HB : Hid (Below w.heap.size w w1) := HB.out.trans (hb.mono HB.out.size)
      clear hb
      go_wp2_with ((with_reducible show wpList _ _ _ (Oper.mk _ (Op.load 37 _) _ _ _ _ :: _) _ _); refine loadB (K1) rfl rfl rfl ?_)
      refine (CC.out _).mono ?_
      rintro e w2 ⟨rfl, hb⟩
      have HB : Hid (Below w.heap.size w w2) := HB.out.trans (hb.mono HB.out.size)
      have HB : Hid (Below w.heap.size w (w2.alloc (.cells (mk 18 fun _ => 0) 77))) := HB.out.alloc HB.out.size _
      clear hb K1
      go_wp2_with fail
      go_ret2
      exact ⟨rfl, HB.out⟩
  · rw [(rm_no (f := f) (r := r) fun h => hR h.2).2.1, rSR_no (f := f) (r := r) fun h => hR h.2]
    have HR := Lib.hid hR
    have CC := Lib.hid (implCount_any f)
    clear hR
    go_enter Try.func36, Try.ntmps36
    go_wp2_with fail
    refine (lawOf_no r _ HR.out).mono ?_
    rintro e w1 ⟨rfl, hb⟩
    have K1 := K1.below hb K1.lt
    have HB : Hid (Below w.heap.size w w1) := HB.out.trans (hb.mono HB.out.size)
    clear hb
    go_wp2_with ((with_reducible show wpList _ _ _ (Oper.mk _ (Op.load 37 _) _ _ _ _ :: _) _ _); refine loadB (K1) rfl rfl rfl ?_)
    refine (CC.out _).mono ?_
    rintro e w2 ⟨rfl, hb⟩
    have HB : Hid (Below w.heap.size w w2) := HB.out.trans (hb.mono HB.out.size)
    have HB : Hid (Below w.heap.size w (w2.alloc (.cells (mk 18 (cntR f)) 77))) := HB.out.alloc HB.out.size _
    clear hb K1
    go_wp2_with fail
    go_ret2
    exact ⟨rfl, HB.out⟩
end Go.Proofs.Ytblcojacmjbjcaa
