/-
  The contracts of MergersLeft and IsPackedBoard in the reference and in the program, for every board.
-/
import Derived.Test.YtmcmpedmgibmkaaSumOf
import Derived.Test.YtmcmpedmgibmkaaImplLeast
import Derived.Test.YtmcmpedmgibmkaaMergers
namespace Go.Proofs.Ytmcmpedmgibmkaa
open Go.RowKit Plain
attribute [local go_sem] store_new
set_option linter.unusedVariables false
set_option linter.unusedSimpArgs false

set_option maxHeartbeats 4000000 in
set_option maxRecDepth 20000 in
theorem specLeft_any (f : Nat → Int) (w : World) :
    Calls Try.prog 30 #[.agg (mk 16 f)] w fun e w' => e = .returned (.tuple #[.int .i64 (mlR f), .bool (vdO f)]) ∧ Below w.heap.size w w' := by
  have K1 := Blk.new w 16 f 28
  have HX := Lib.hid ((Below.refl w.heap.size w).alloc (Nat.le_refl _) (.cells (mk 16 f) 28))
  by_cases hV : Vd f
  · rw [ml_yes hV, vdO_yes hV]
    have HBD := Lib.hid (fun w => l2Board_yes f w hV)
    have HSF := Lib.hid (fun w => l2Sum_any f w hV)
    have HMN := Lib.hid (fun w => l2Many_any f w)
    have hb := sum_bd hV
    obtain ⟨S, hS⟩ := Int.eq_ofNat_of_zero_le hb.1
    have HLS := Lib.hid (fun w => l7Least_any S w (by omega))
    have hm := man_emp f hV 16 (by omega)
    have hle := lsN_half S
    have hE := empN_le f 16
    rw [hS] at HSF ⊢
    rw [Int.toNat_natCast, ← lsN_len, hm]
    have hS1 : S ≤ 2097152 := by omega
    rw [← lsN_len] at hle
    clear hV hb hS hm
    generalize empN f 16 = E at *
    have e1 : IntKind.i64.wrap (16 - (E : Int) - ((lsL 17 S).length : Int)) = 16 - (E : Int) - ((lsL 17 S).length : Int) := IntWalk.i64_in _ (by omega)
    have hEE : (((16 : Nat) : Int) - (E : Int) - ((lsL 17 S).length : Int)) = 16 - (E : Int) - ((lsL 17 S).length : Int) := rfl
    clear hEE hle hE hS1
    go_enter Try.func30, Try.ntmps30
    go_wp2_with ((with_reducible show wpList _ _ _ (Oper.mk _ (Op.load 28 _) _ _ _ _ :: _) _ _); refine loadB (K1) rfl rfl rfl ?_)
    refine (HBD.out _).mono ?_
    rintro e w1 ⟨rfl, hb⟩
    have K1 := K1.below hb K1.lt
    have HX : Hid (Below w.heap.size w w1) := HX.out.trans (hb.mono HX.out.size)
    clear hb
    go_wp2_with fail
    refine wp_region_held_drew (S := fun W => Blk W w.heap.size 16 f 28) (by kernel_rfl) (K1.drew) (fun hHeld => ?_)
    have K1 : Blk w1.drew w.heap.size 16 f 28 := K1.drew
    have HX : Hid (Below w.heap.size w w1.drew) := HX.out.drew
    generalize w1.drew = x0 at *
    refine wpAnyH_take (i := 0) (oi := { dst := some 7, op := _, type := _, pos := _, after := _, guard := _ }) (v := .agg (mk 16 f)) rfl (by kernel_rfl) (by kernel_rfl) (by kernel_rfl) (fun _ _ _ h => h) (Or.inl ⟨by rfl, fun _ q => execB q rfl rfl⟩) (by assumption) ?_
    try simp only [Act.put, List.setIfInBounds_toArray, List.set_cons_zero, List.set_cons_succ]
    refine wpAnyH_take (i := 2) (oi := { dst := some 9, op := _, type := _, pos := _, after := _, guard := _ }) (v := .agg (mk 16 f)) rfl (by kernel_rfl) (by kernel_rfl) (by kernel_rfl) (fun _ _ _ h => h) (Or.inl ⟨by rfl, fun _ q => execB q rfl rfl⟩) (by assumption) ?_
    try simp only [Act.put, List.setIfInBounds_toArray, List.set_cons_zero, List.set_cons_succ]
    refine wpAnyH_ready (rs := [1]) (by kernel_rfl) (by simp) ?_
    refine AllReadyH.cons rfl (fun K hK => ?_) AllReadyH.nil
    go_simp
    refine (HMN.out _).mono ?_
    rintro e x1 ⟨rfl, hb⟩
    have K1 := K1.below hb K1.lt
    have HX : Hid (Below w.heap.size w x1) := HX.out.trans (hb.mono HX.out.size)
    clear hb hHeld
    go_wp2_with fail
    refine hK.out _ _ K1 (fun hHeld => ?_)
    clear hK K
    try simp only [Act.put, List.setIfInBounds_toArray, List.set_cons_zero, List.set_cons_succ]
    refine wpAnyH_ready (rs := [3]) (by kernel_rfl) (by simp) ?_
    refine AllReadyH.cons rfl (fun K hK => ?_) AllReadyH.nil
    go_simp
    refine (HSF.out _).mono ?_
    rintro e x2 ⟨rfl, hb⟩
    have K1 := K1.below hb K1.lt
    have HX : Hid (Below w.heap.size w x2) := HX.out.trans (hb.mono HX.out.size)
    clear hb hHeld
    go_wp2_with fail
    refine hK.out _ _ K1 (fun hHeld => ?_)
    clear hK K
    try simp only [Act.put, List.setIfInBounds_toArray, List.set_cons_zero, List.set_cons_succ]
    refine wpAnyH_ready (rs := [4]) (by kernel_rfl) (by simp) ?_
    refine AllReadyH.cons rfl (fun K hK => ?_) AllReadyH.nil
    go_simp
    refine (HLS.out _).mono ?_
    rintro e x3 ⟨g, cap, rfl, ho, hb⟩
    have K1 := K1.below hb K1.lt
    have HX : Hid (Below w.heap.size w x3) := HX.out.trans (hb.mono HX.out.size)
    clear hb ho hHeld
    go_wp2_with fail
    refine hK.out _ _ K1 (fun hHeld => ?_)
    clear hK K
    try simp only [Act.put, List.setIfInBounds_toArray, List.set_cons_zero, List.set_cons_succ]
    refine wpAnyH_take (i := 5) (oi := { dst := some 12, op := _, type := _, pos := _, after := _, guard := _ }) (v := .int .i64 ((lsL 17 S).length : Int)) rfl (by kernel_rfl) (by kernel_rfl) (by kernel_rfl) (fun _ _ _ h => h) (Or.inl ⟨by rfl, by intro w hSw; clear hSw; go_simp; (try with_reducible rfl)⟩) (by assumption) ?_
    try simp only [Act.put, List.setIfInBounds_toArray, List.set_cons_zero, List.set_cons_succ]
    refine wpAnyH_take (i := 6) (oi := { dst := some 13, op := _, type := _, pos := _, after := _, guard := _ }) (v := .int .i64 (16 - (E : Int) - ((lsL 17 S).length : Int))) rfl (by kernel_rfl) (by kernel_rfl) (by kernel_rfl) (fun _ _ _ h => h) (Or.inl ⟨by rfl, by intro w hSw; clear hSw; go_simp; (try with_reducible rfl)⟩) (by assumption) ?_
    try simp only [Act.put, List.setIfInBounds_toArray, List.set_cons_zero, List.set_cons_succ]
    refine wpAnyH_take (i := 7) (oi := { dst := some 2, op := _, type := _, pos := _, after := _, guard := _ }) (v := .int .i64 (16 - (E : Int) - ((lsL 17 S).length : Int))) rfl (by kernel_rfl) (by kernel_rfl) (by kernel_rfl) (fun _ _ _ h => h) (Or.inl ⟨by rfl, by intro w hSw; clear hSw; go_simp; (try with_reducible rfl)⟩) (by assumption) ?_
    try simp only [Act.put, List.setIfInBounds_toArray, List.set_cons_zero, List.set_cons_succ]
    refine wpAnyH_take (i := 8) (oi := { dst := some 3, op := _, type := _, pos := _, after := _, guard := _ }) (v := .bool true) rfl (by kernel_rfl) (by kernel_rfl) (by kernel_rfl) (fun _ _ _ h => h) (Or.inl ⟨by rfl, by intro w hSw; clear hSw; go_simp; (try with_reducible rfl)⟩) (by assumption) ?_
    try simp only [Act.put, List.setIfInBounds_toArray, List.set_cons_zero, List.set_cons_succ]
    refine wpAnyH_done (by kernel_rfl) ?_ _
    clear hHeld
    go_wp2_with fail
    go_ret2
    exact ⟨rfl, HX.out⟩
  · rw [ml_no hV, vdO_no hV]
    have HBD := Lib.hid (fun w => l2Board_no f w hV)
    clear hV
    go_enter Try.func30, Try.ntmps30
    go_wp2_with ((with_reducible show wpList _ _ _ (Oper.mk _ (Op.load 28 _) _ _ _ _ :: _) _ _); refine loadB (K1) rfl rfl rfl ?_)
    refine (HBD.out _).mono ?_
    rintro e w1 ⟨rfl, hb⟩
    have HX : Hid (Below w.heap.size w w1) := HX.out.trans (hb.mono HX.out.size)
    clear hb
    go_wp2_with fail
    go_ret2
    exact ⟨rfl, HX.out⟩
set_option maxHeartbeats 4000000 in
set_option maxRecDepth 20000 in
theorem implLeft_any (f : Nat → Int) (w : World) :
    Calls Try.prog 31 #[.agg (mk 16 f)] w fun e w' => e = .returned (.tuple #[.int .i64 (mlR f), .bool (vdO f)]) ∧ Below w.heap.size w w' := by
  have z18 := zero18
  have K1 := Blk.new w 16 f 28
  have HX := Lib.hid ((Below.refl w.heap.size w).alloc (Nat.le_refl _) (.cells (mk 16 f) 28))
  have HCN := Lib.hid (fun w => implCount_any f w)
  by_cases hV : Vd f
  · rw [ml_yes hV, vdO_yes hV]
    rw [cntR_yes hV, vdO_yes hV] at HCN
    have HSF := Lib.hid (fun w => implSum_any f w)
    rw [sumR_yes hV, vdO_yes hV] at HSF
    have HLS := Lib.hid (fun w => implLeast_any (sumF f 16) w)
    obtain ⟨hok, hle⟩ := sum_ok hV
    rw [(ls_yes hok).2.1, (ls_yes hok).1] at HLS
    have hm := manF_cnt hV 16 (by omega)
    have h16 := hok.2.2.2
    have hb := cntF_bd f 16 0
    rw [hm]
    clear hok hm hV hle
    generalize lsN (sumF f 16).toNat = L at *
    generalize sumF f 16 = S at *
    generalize cntF f 16 = c at *
    have e1 : IntKind.i64.wrap (16 - c 0) = 16 - c 0 := IntWalk.i64_in _ (by omega)
    have e2 : IntKind.i64.wrap (16 - c 0 - (L : Int)) = 16 - c 0 - (L : Int) := IntWalk.i64_in _ (by omega)
    clear hb h16
    go_enter Try.func31, Try.ntmps31
    go_wp2_with ((with_reducible show wpList _ _ _ (Oper.mk _ (Op.load 28 _) _ _ _ _ :: _) _ _); refine loadB (K1) rfl rfl rfl ?_)
    refine (HCN.out _).mono ?_
    rintro e w1 ⟨rfl, hb⟩
    have K4 := Blk.new w1 18 c 58
    have K1 := (K1.below hb K1.lt).alloc (.cells (mk 18 c) 58)
    have HX := HX.out.trans (hb.mono HX.out.size)
    have HX : Hid (Below w.heap.size w (w1.alloc (.cells (mk 18 c) 58))) := HX.alloc HX.size _
    clear hb
    go_wp2_with ((with_reducible show wpList _ _ _ (Oper.mk _ (Op.load 28 _) _ _ _ _ :: _) _ _); refine loadB (K1) rfl rfl rfl ?_)
    generalize w1.alloc (.cells (mk 18 c) 58) = w2 at *
    refine (HSF.out _).mono ?_
    rintro e w3 ⟨rfl, hb⟩
    have K4 := K4.below hb K4.lt
    have HX : Hid (Below w.heap.size w w3) := HX.out.trans (hb.mono HX.out.size)
    clear hb K1
    go_wp2_with fail
    refine (HLS.out _).mono ?_
    rintro e w4 ⟨rfl, hb⟩
    have K4 := K4.below hb K4.lt
    have HX : Hid (Below w.heap.size w w4) := HX.out.trans (hb.mono HX.out.size)
    have c0 := K4.cell (i := 0) (by omega)
    clear hb
    go_wp2_with fail
    go_ret2
    exact ⟨rfl, HX.out⟩
  · rw [ml_no hV, vdO_no hV]
    rw [cntR_no hV, vdO_no hV] at HCN
    clear hV
    go_enter Try.func31, Try.ntmps31
    go_wp2_with ((with_reducible show wpList _ _ _ (Oper.mk _ (Op.load 28 _) _ _ _ _ :: _) _ _); refine loadB (K1) rfl rfl rfl ?_)
    refine (HCN.out _).mono ?_
    rintro e w1 ⟨rfl, hb⟩
    have HX := HX.out.trans (hb.mono HX.out.size)
    have HX : Hid (Below w.heap.size w (w1.alloc (.cells (mk 18 fun _ => 0) 58))) := HX.alloc HX.size _
    clear hb K1
    go_wp2_with fail
    go_ret2
    exact ⟨rfl, HX.out⟩
namespace Plain
/-- All of the numbers 1 .. T are at most 1. -/
def onB (c : Nat → Int) : Nat → Bool
  | 0 => true
  | T + 1 => onB c T && decide (c (T + 1) ≤ 1)
theorem onB_pk (f : Nat → Int) : ∀ T, onB (cntF f 16) T = pkB f T
  | 0 => rfl
  | T + 1 => by unfold onB pkB; rw [onB_pk f T]
theorem onB_zero : ∀ T, onB (fun _ => 0) T = true
  | 0 => rfl
  | T + 1 => by unfold onB; rw [onB_zero T]; rfl
theorem onB_no {c : Nat → Int} : ∀ {T v : Nat}, 1 ≤ v → v ≤ T → 1 < c v → onB c T = false
  | 0, v, h1, h2, _ => by omega
  | T + 1, v, h1, h2, h => by
    unfold onB
    by_cases e : v = T + 1
    · subst e; rw [decide_eq_false (by omega), Bool.and_false]
    · rw [onB_no h1 (by omega) h, Bool.false_and]
theorem ip_on (f : Nat → Int) : ipR f = (vdO f && onB (cntR f) 17) := by
  by_cases h : Vd f
  · rw [ip_yes h, vdO_yes h, cntR_yes h, onB_pk, Bool.true_and]
  · rw [ip_no h, vdO_no h, Bool.false_and]
theorem cnt_vd {f : Nat → Int} {v : Nat} (h : 1 < cntR f v) : vdO f = true := by
  by_cases hV : Vd f
  · exact vdO_yes hV
  · rw [cntR_no hV] at h
    have h : (1 : Int) < 0 := h
    omega
/-- The greatest of the numbers 1 .. T. -/
def mxF (c : Nat → Int) : Nat → Int
  | 0 => c 1
  | T + 1 => max (mxF c T) (c (T + 1))
theorem mx_on (c : Nat → Int) : ∀ T, 1 ≤ T → decide (mxF c T ≤ 1) = onB c T
  | 0, h => by omega
  | 1, _ => by simp [mxF, onB]
  | T + 2, _ => by
    have h := mx_on c (T + 1) (by omega)
    show decide (max (mxF c (T + 1)) (c (T + 2)) ≤ 1) = (onB c (T + 1) && decide (c (T + 2) ≤ 1))
    rw [← h, ← Bool.decide_and]
    congr 1
    apply propext
    omega
end Plain
set_option maxHeartbeats 1000000 in
theorem specPkd_any (f : Nat → Int) (w : World) :
    Calls Try.prog 32 #[.agg (mk 16 f)] w fun e w' => e = .returned (.tuple #[.bool (ipR f), .bool (vdO f)]) ∧ Below w.heap.size w w' := by
  have z18 := zero18
  have K1 := Blk.new w 16 f 28
  have HX := Lib.hid ((Below.refl w.heap.size w).alloc (Nat.le_refl _) (.cells (mk 16 f) 28))
  have HCN := Lib.hid (fun w => specCount_any f w)
  have HVD := Lib.hid (fun v => cnt_vd (f := f) (v := v))
  rw [ip_on]
  generalize cntR f = c at *
  generalize vdO f = O at *
  go_enter Try.func32, Try.ntmps32
  go_wp2_with ((with_reducible show wpList _ _ _ (Oper.mk _ (Op.load 28 _) _ _ _ _ :: _) _ _); refine loadB (K1) rfl rfl rfl ?_)
  refine (HCN.out _).mono ?_
  rintro e w1 ⟨rfl, hb⟩
  have K4 := Blk.new w1 18 c 58
  have HX := HX.out.trans (hb.mono HX.out.size)
  have HX : Hid (Below w.heap.size w (w1.alloc (.cells (mk 18 c) 58))) := HX.alloc HX.size _
  clear hb K1
  go_wp2_with fail
  generalize w1.alloc (.cells (mk 18 c) 58) = w2 at *
  go_loopg [6] 17 (fun g s6 wr => ∃ T : Nat, T + g = 17 ∧ s6 = .int .i64 ((T + 1 : Nat) : Int) ∧ wr = w2 ∧ Hid (onB c T = true))
  case atStart => exact ⟨0, by omega, rfl, rfl, rfl⟩
  case round =>
    obtain ⟨T, hTg, rfl, rfl, HO⟩ := hrel
    cases gk with
    | zero =>
      have hT : ¬ (((T + 1 : Nat) : Int) ≤ 17) := by omega
      obtain rfl : T = 17 := by omega
      clear hTg hT
      go_wp2_with fail
      go_ret2
      rw [HO.out, Bool.and_true]
      exact ⟨rfl, HX.out⟩
    | succ g =>
      obtain ⟨U, hU⟩ : ∃ U, U = T + 1 := ⟨_, rfl⟩
      have c4 := K4.cell (i := U) (by omega)
      rw [← hU]
      have hU1 : (U : Int) ≤ 17 := by omega
      have hU2 : (U : Int) < 18 := by omega
      have hU0 : (0 : Int) ≤ (U : Int) := by omega
      by_cases h1 : 1 < c U
      · have HE : Hid (O = true ∧ onB c 17 = false) := ⟨HVD.out U h1, onB_no (by omega) (by omega) h1⟩
        clear hU hTg
        go_wp2_with fail
        go_ret2
        rw [HE.out.1, HE.out.2]
        exact ⟨rfl, HX.out⟩
      · have HO2 : Hid (onB c U = true) := by
          rw [hU]
          show onB c (T + 1) = true
          unfold onB
          rw [HO.out, ← hU, Bool.true_and]
          exact decide_eq_true (by omega)
        have HU := Lib.hid hU
        clear hU
        go_wp2_with fail
        go_roundg g
        case rel => exact ⟨U, by have := HU.out; omega, by go_num, rfl, HO2⟩
        case measure => omega
set_option maxHeartbeats 1000000 in
theorem max_any (b cap : Nat) (c : Nat → Int) (w : World) (h : ∀ j, 1 ≤ j → j ≤ 17 → w.cell? ⟨b, j, none⟩ = some (.int .i64 (c j))) :
    Calls Try.prog 65 #[.slice (some ⟨b, 1, none⟩) 17 cap] w fun e w' => e = .returned (.int .i64 (mxF c 17)) ∧ w = w' := by
  have HC := Lib.hid h
  have c1 := h 1 (by omega) (by omega)
  clear h
  go_enter Try.func65, Try.ntmps65
  go_wp2_with fail
  go_loopg [4, 3] 16 (fun g s4 s3 wr => ∃ T : Nat, T + g = 16 ∧ s4 = .int .i64 ((T + 1 : Nat) : Int) ∧ s3 = .int .i64 (mxF c (T + 1)) ∧ wr = w)
  case atStart => exact ⟨0, by omega, rfl, by simp [mxF], rfl⟩
  case round =>
    obtain ⟨T, hTg, rfl, rfl, rfl⟩ := hrel
    cases gk with
    | zero =>
      have hT : ¬ (((T + 1 : Nat) : Int) < 17) := by omega
      obtain rfl : T = 16 := by omega
      clear hTg hT
      go_wp2_with fail
      go_ret
      exact ⟨rfl, rfl⟩
    | succ g =>
      have hT : (((T + 1 : Nat) : Int) < 17) := by omega
      have hT0 : (0 : Int) ≤ ((T + 1 : Nat) : Int) := by omega
      have c2 := HC.out (1 + (T + 1)) (by omega) (by omega)
      obtain ⟨U, hU⟩ : ∃ U, U = T + 1 := ⟨_, rfl⟩
      have HM : Hid (mxF c (U + 1) = max (mxF c U) (c (U + 1))) := rfl
      have HU := Lib.hid hU
      rw [show 1 + (T + 1) = U + 1 by omega] at c2
      rw [← hU] at hT hT0 ⊢
      have hU2 : 1 + U = U + 1 := by omega
      clear hU
      by_cases hx : mxF c U < c (U + 1)
      · have HM2 : Hid (mxF c (U + 1) = c (U + 1)) := by show _ = _; rw [HM.out]; omega
        go_wp2_with fail
        go_roundg g
        case rel => exact ⟨U, by have := HU.out; omega, by go_num, by rw [HM2.out], rfl⟩
        case measure => omega
      · have HM2 : Hid (mxF c (U + 1) = mxF c U) := by show _ = _; rw [HM.out]; omega
        go_wp2_with fail
        go_roundg g
        case rel => exact ⟨U, by have := HU.out; omega, by go_num, by rw [HM2.out], rfl⟩
        case measure => omega
set_option maxHeartbeats 1000000 in
theorem implPkd_any (f : Nat → Int) (w : World) :
    Calls Try.prog 33 #[.agg (mk 16 f)] w fun e w' => e = .returned (.tuple #[.bool (ipR f), .bool (vdO f)]) ∧ Below w.heap.size w w' := by
  have z18 := zero18
  have K1 := Blk.new w 16 f 28
  have HX := Lib.hid ((Below.refl w.heap.size w).alloc (Nat.le_refl _) (.cells (mk 16 f) 28))
  have HCN := Lib.hid (fun w => implCount_any f w)
  rw [ip_on, ← mx_on _ 17 (by omega)]
  generalize cntR f = c at *
  generalize vdO f = O at *
  cases O with
  | true =>
    rw [Bool.true_and]
    generalize hm : mxF c 17 = M at *
    have HM := Lib.hid hm
    clear hm
    go_enter Try.func33, Try.ntmps33
    go_wp2_with ((with_reducible show wpList _ _ _ (Oper.mk _ (Op.load 28 _) _ _ _ _ :: _) _ _); refine loadB (K1) rfl rfl rfl ?_)
    refine (HCN.out _).mono ?_
    rintro e w1 ⟨rfl, hb⟩
    have K4 := Blk.new w1 18 c 58
    have HX := HX.out.trans (hb.mono HX.out.size)
    have HX : Hid (Below w.heap.size w (w1.alloc (.cells (mk 18 c) 58))) := HX.alloc HX.size _
    clear hb K1
    go_wp2_with fail
    refine (max_any w1.heap.size _ c _ (fun j h1 h2 => K4.cell (by omega))).mono ?_
    rintro e w' ⟨rfl, rfl⟩
    rw [HM.out]
    go_wp2_with fail
    go_ret2
    exact ⟨rfl, HX.out⟩
  | false =>
    rw [Bool.false_and]
    go_enter Try.func33, Try.ntmps33
    go_wp2_with ((with_reducible show wpList _ _ _ (Oper.mk _ (Op.load 28 _) _ _ _ _ :: _) _ _); refine loadB (K1) rfl rfl rfl ?_)
    refine (HCN.out _).mono ?_
    rintro e w1 ⟨rfl, hb⟩
    have HX := HX.out.trans (hb.mono HX.out.size)
    have HX : Hid (Below w.heap.size w (w1.alloc (.cells (mk 18 c) 58))) := HX.alloc HX.size _
    clear hb K1
    go_wp2_with fail
    go_ret2
    exact ⟨rfl, HX.out⟩
end Go.Proofs.Ytmcmpedmgibmkaa
