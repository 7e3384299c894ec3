/-
  The contract of the reference's l8Sure, by induction on the number of moves.
-/
import Derived.Test.YtlboglcpbbnbcabSpecSure
import Derived.Test.YtlboglcpbbnbcabImplSure
namespace Go.Proofs.Ytlboglcpbbnbcab
open Go.RowKit Plain
attribute [local go_sem] store_new
set_option linter.unusedVariables false
set_option linter.unusedSimpArgs false
theorem dirN_lt {S : Bst} : dirN S < 0 ↔ S.ok = false := by
  unfold dirN
  cases h : S.ok with
  | true => simp
  | false => simp
theorem dirN_yes {S : Bst} (h : S.ok = true) : dirN S = (S.d : Int) := by simp [dirN, h]
theorem dirN_bd {S : Bst} (h : S.d ≤ 4) : -1 ≤ dirN S ∧ dirN S ≤ 4 := by unfold dirN; split <;> omega
theorem bb_bd (n : Nat) {f : Nat → Int} (hf : Vd f) (k : Nat) : 0 ≤ (bbF n f k).v ∧ (bbF n f k).v ≤ (n + 1) * 4194304 ∧ (bbF n f k).d ≤ k :=
  bs_bd (m := ((n : Int) + 1) * 4194304) (by omega) k fun d _ => sc_bd n hf d
set_option maxHeartbeats 2000000 in
set_option maxRecDepth 20000 in
theorem sure_of_least {n : Nat} (hL : LEm n) (hn : n ≤ 1) (N : Int) (hN : N - 1 = (n : Int)) (f : Nat → Int) (w : World) (hV : Vd f) :
    Calls Try.prog 125 #[.agg (mk 16 f), .int .i64 N] w fun e w' => e = .returned (.tuple #[.int .i64 (bbF n f 4).v, .int .i64 (dirN (bbF n f 4))]) ∧ Below w.heap.size w w' := by
  have z3 := zero3
  have z16 := zero16
  have K1 := Blk.new w 16 f 29
  have HB := Lib.hid ((Below.refl w.heap.size w).alloc (Nat.le_refl _) (.cells (mk 16 f) 29))
  have HV := Lib.hid hV
  have HW := Lib.hid (fun d W (hm : isMv f d = true) => hL (slideB f d) W (slideB_vd hV d) (mv_places hV hm))
  rw [← hN] at HW
  have HSB := Lib.hid (fun d => slideS_bd hV d 4 (Nat.le_refl _))
  have HWB := Lib.hid (fun d => wr_bd n (slideB_vd hV d))
  have HBB := Lib.hid (fun k => bb_bd n hV k)
  have hNb1 : 1 ≤ N := by omega
  have hNb2 : N ≤ 2 := by omega
  have hN0 : N > 0 := by omega
  clear hL hV hN
  have iE : ∀ (f g : Nat → Int) (w : World), (Op.equalIn 10000 29 (.agg (mk 16 f)) (.agg (mk 16 g))).run Try.prog w = .ok (sameB f g) w := eqB 9996
  go_enter Try.func125, Try.ntmps125
  go_wp2_with fail
  go_loopg [6, 7, 8] 4 (fun gk s6 s7 s8 wr => ∃ (k : Nat) (S : Bst), k + gk = 4 ∧ s8 = .int .i64 k ∧ Hid (S = bbF n f k) ∧ s6 = .int .i64 S.v ∧ s7 = .int .i64 (dirN S) ∧ Blk wr w.heap.size 16 f 29 ∧ Hid (Below w.heap.size w wr))
  case atStart => exact ⟨0, bs0, by omega, rfl, rfl, rfl, rfl, K1, HB⟩
  case round =>
    obtain ⟨k, S, hkg, rfl, HS, rfl, rfl, K1, HB⟩ := hrel
    cases gk with
    | zero =>
      have hk : ¬ ((k : Int) < 4) := by omega
      obtain rfl : k = 4 := by omega
      clear hkg hk
      go_wp2_with fail
      go_ret2
      exact ⟨by rw [← HS.out]; rfl, HB.out⟩
    | succ gk2 =>
      have hk8 : (k : Int) < 4 := by omega
      have hk0 : (0 : Int) ≤ (k : Int) := by omega
      have hk3 : (k : Int) ≤ 3 := by omega
      go_wp2_with ((with_reducible show wpList _ _ _ (Oper.mk _ (Op.load 29 _) _ _ _ _ :: _) _ _); refine loadB (K1) rfl rfl rfl ?_)
      refine (l2Slide_nat f k _ HV.out hk0 hk3).mono ?_
      rintro e w3 ⟨rfl, hb⟩
      have K1 := (K1.below hb K1.lt).alloc (.cells (mk 16 (slideB f k)) 29)
      have K9 := Blk.new w3 16 (slideB f k) 29
      have HB3 : Hid (Below w.heap.size w w3) := HB.out.trans (hb.mono HB.out.size)
      have HB : Hid (Below w.heap.size w (w3.alloc (.cells (mk 16 (slideB f k)) 29))) := HB3.out.alloc HB3.out.size _
      clear hb HB3
      by_cases hm : isMv f k = true
      · have hq : sameB (slideB f k) f = false := by simpa [isMv] using hm
        have HM := Lib.hid hm
        clear hm
        go_wp2_with (first | ((with_reducible show wpList _ _ _ (Oper.mk _ (Op.load 29 _) _ _ _ _ :: _) _ _); refine loadB (K9) rfl rfl rfl ?_) | ((with_reducible show wpList _ _ _ (Oper.mk _ (Op.load 29 _) _ _ _ _ :: _) _ _); refine loadB (K1) rfl rfl rfl ?_))
        refine (HW.out k _ HM.out).mono ?_
        rintro e w5 ⟨rfl, hb⟩
        have K1 := K1.below hb K1.lt
        have HB : Hid (Below w.heap.size w w5) := HB.out.trans (hb.mono HB.out.size)
        clear hb K9
        have K1 := K1.alloc (.cells (mk 3 (plF (wrF n (slideB f k)).p)) 70)
        have HB : Hid (Below w.heap.size w (w5.alloc (.cells (mk 3 (plF (wrF n (slideB f k)).p)) 70))) := HB.out.alloc HB.out.size _
        have HSC : Hid (scF n f k = slideS f k 4 + (wrF n (slideB f k)).v) := rfl
        obtain ⟨b1, b2⟩ := HSB.out k
        obtain ⟨b3, b4⟩ := HWB.out k
        have b5 : (wrF n (slideB f k)).v ≤ 4194304 := by
          have : (n : Int) ≤ 1 := by omega
          omega
        clear b4
        have hK3 : (k : Int) + 1 ≤ 4 := by omega
        have HD := dirN_bd (S := S) (by have := (HBB.out k).2.2; rw [← HS.out] at this; omega)
        have HDL : Hid (dirN S < 0 ↔ S.ok = false) := dirN_lt
        have hd1 := HD.1
        have hd2 := HD.2
        clear HD
        generalize plF (wrF n (slideB f k)).p = pp at *
        generalize (wrF n (slideB f k)).v = B at *
        generalize slideS f k 4 = A at *
        by_cases ho : dirN S < 0
        · have Y : Hid (bbF n f (k + 1) = ⟨k, A + B, true⟩) := by show _ = _; rw [← HSC.out]; exact bb_yes HM.out (by rw [← HS.out]; exact .inl (HDL.out.1 ho))
          generalize dirN S = dn at *
          generalize S.v = sv at *
          go_wp2_with fail
          go_roundg gk2
          case rel => exact ⟨k + 1, ⟨k, A + B, true⟩, by omega, by go_num, Y.out.symm, rfl, rfl, K1, HB⟩
          case measure => omega
        · have hok : S.ok = true := by
            cases e : S.ok with
            | true => rfl
            | false => exact absurd (HDL.out.2 e) ho
          by_cases hgt : A + B > S.v
          · have Y : Hid (bbF n f (k + 1) = ⟨k, A + B, true⟩) := by show _ = _; rw [← HSC.out]; exact bb_yes HM.out (by rw [← HS.out, HSC.out]; exact .inr hgt)
            clear hok
            generalize dirN S = dn at *
            generalize S.v = sv at *
            go_wp2_with fail
            go_roundg gk2
            case rel => exact ⟨k + 1, ⟨k, A + B, true⟩, by omega, by go_num, Y.out.symm, rfl, rfl, K1, HB⟩
            case measure => omega
          · have Y : Hid (bbF n f (k + 1) = S) := by show _ = _; rw [HS.out]; exact bb_no HM.out (by rw [← HS.out, HSC.out]; exact fun q => q.elim (fun q => by rw [hok] at q; cases q) hgt)
            clear hok
            generalize hdn : dirN S = dn at *
            have HDN := Lib.hid hdn
            clear hdn
            generalize hsv : S.v = sv at *
            have HSV := Lib.hid hsv
            clear hsv
            go_wp2_with fail
            go_roundg gk2
            case rel => exact ⟨k + 1, S, by omega, by go_num, Y.out.symm, by rw [HSV.out], by rw [HDN.out], K1, HB⟩
            case measure => omega
      · have hm : isMv f k = false := by simpa using hm
        have hq : sameB (slideB f k) f = true := by simpa [isMv] using hm
        have Y : Hid (bbF n f (k + 1) = S) := by show _ = _; rw [HS.out]; exact bb_still hm
        clear hm
        go_wp2_with (first | ((with_reducible show wpList _ _ _ (Oper.mk _ (Op.load 29 _) _ _ _ _ :: _) _ _); refine loadB (K9) rfl rfl rfl ?_) | ((with_reducible show wpList _ _ _ (Oper.mk _ (Op.load 29 _) _ _ _ _ :: _) _ _); refine loadB (K1) rfl rfl rfl ?_))
        go_roundg gk2
        case rel => exact ⟨k + 1, S, by omega, by go_num, Y.out.symm, rfl, rfl, K1, HB⟩
        case measure => omega
theorem sure0_any (f : Nat → Int) (w : World) :
    Calls Try.prog 125 #[.agg (mk 16 f), .int .i64 0] w fun e w' => e = .returned (.tuple #[.int .i64 0, .int .i64 (-1)]) ∧ Below w.heap.size w w' := by
  have K1 := Blk.new w 16 f 29
  have HB := Lib.hid ((Below.refl w.heap.size w).alloc (Nat.le_refl _) (.cells (mk 16 f) 29))
  go_enter Try.func125, Try.ntmps125
  go_wp2_with fail
  go_loopg [6, 7, 8] 1 (fun gk s6 s7 s8 wr => s6 = .int .i64 0 ∧ s7 = .int .i64 (-1) ∧ s8 = .int .i64 0 ∧ Hid (Below w.heap.size w wr))
  case atStart => exact ⟨rfl, rfl, rfl, HB⟩
  case round =>
    obtain ⟨rfl, rfl, rfl, HB⟩ := hrel
    go_wp2_with fail
    go_ret2
    exact ⟨rfl, HB.out⟩
theorem su_none : SUm 0 := fun f w _ => (sure0_any f w).mono fun e w' h => ⟨-1, by rw [su_zero]; exact h.1, h.2⟩
theorem su_next {n : Nat} (hS : SUm n) (hn : n ≤ 1) : SUm (n + 1) := fun f w hV =>
  (sure_of_least (least_of_sure hS) hn ((n + 1 : Nat) : Int) (by omega) f w hV).mono fun e w' h => ⟨_, by rw [su_succ]; exact h.1, h.2⟩
theorem su_all : ∀ n, n ≤ 2 → SUm n
  | 0, _ => su_none
  | n + 1, h => su_next (su_all n (by omega)) (by omega)
theorem le_all (n : Nat) (h : n ≤ 2) : LEm n := least_of_sure (su_all n h)
end Go.Proofs.Ytlboglcpbbnbcab
