/-
  The contracts of the reference's pairs of a line and the program's pairs of all rows.
-/
import Derived.Test.YtblcojacmjbjcabBaseA
import Derived.Test.YtblcojacmjbjcabPlainA
namespace Go.Proofs.Ytblcojacmjbjcab
open Go.RowKit Plain
attribute [local go_sem] store_new

set_option maxHeartbeats 1000000 in
theorem l2Pairs_any (g : Nat → Int) (w : World) (hf : VdRow g) :
    Calls Try.prog 298 #[.agg (mk 4 g)] w fun e w' => e = .returned (.int .i64 (prow g 3)) ∧ Below w.heap.size w w' := by
  have HV := Lib.hid hf
  clear hf
  go_enter Try.func298, Try.ntmps298
  go_wp2_with fail
  have K := Blk.new w 4 g 44
  have HB := Lib.hid ((Below.refl w.heap.size w).alloc (Nat.le_refl _) (.cells (mk 4 g) 44))
  generalize w.alloc (.cells (mk 4 g) 44) = w1 at *
  go_loopg [4, 3] 3 (fun m s4 s3 wr => ∃ k : Nat, k + m = 3 ∧ s4 = .int .i64 ((k + 1 : Nat) : Int) ∧ s3 = .int .i64 (prow g k) ∧ Blk wr w.heap.size 4 g 44 ∧ Hid (Below w.heap.size w wr))
  case atStart => exact ⟨0, by omega, rfl, rfl, K, HB⟩
  case round =>
    obtain ⟨k, hkm, rfl, rfl, k1, hb⟩ := hrel
    cases gk with
    | zero =>
      have hk : ¬ (((k + 1 : Nat) : Int) < 4) := by omega
      have HK : Hid (k = 3) := by show k = 3; omega
      clear hkm
      go_wp2_with fail
      go_ret
      exact ⟨by rw [← HK.out]; rfl, hb.out⟩
    | succ m =>
      have hk2 : k < 3 := by omega
      obtain ⟨U, hU⟩ : ∃ U, U = k + 1 := ⟨_, rfl⟩
      have c1 := k1.cell (i := U) (by omega)
      have c2 := k1.cell (i := U - 1) (by omega)
      have eU : g (U - 1) = g k := by congr 1; omega
      rw [eU] at c2
      obtain ⟨x0, x1⟩ := HV.out U (by omega)
      have hb3 := prow_bd g k
      have n0 := hb3.1
      have n1 : prow g k ≤ 3 := by omega
      rw [← hU]
      have hU0 : (1 : Int) ≤ (U : Int) := by omega
      have hU1 : (U : Int) < 4 := by omega
      have hU2 : (0 : Int) ≤ (U : Int) - 1 := by omega
      have hU3 : (U : Int) - 1 < 4 := by omega
      have hU4 : (0 : Int) ≤ (U : Int) := by omega
      have HU := Lib.hid hU
      by_cases hp : g U = g k
      · have d0 : (g U == g k) = true := by simpa using hp
        by_cases hq : 1 ≤ g U ∧ g U ≤ 16
        · have HS : Hid (prow g U = prow g k + 1) := by show prow g U = _; rw [hU]; exact prow_yes (by rw [← hU]; exact ⟨hp, hq⟩)
          obtain ⟨q0, q1⟩ := hq
          clear hU hp eU hb3 x0 x1
          generalize g U = x at *
          generalize g k = y at *
          generalize prow g k = n at *
          go_wp2_with fail
          go_quiet ((go_at_call 188; exact Calls.quiet_of_same ((l1In_yes _ _ _ _ q0 q1).mono fun e w2 h => ⟨h.1, h.2.symm⟩)))
          go_wp2_with fail
          go_roundg m
          case rel => exact ⟨U, by have := HU.out; omega, by go_num, by rw [HS.out], k1.drewN _, below_drewN hb.out _⟩
          case measure => omega
        · have HS : Hid (prow g U = prow g k) := by show prow g U = _; rw [hU]; exact prow_no (by rw [← hU]; exact fun h => hq h.2)
          have HQ := Lib.hid (show g U < 1 ∨ 16 < g U by omega)
          clear hU hp eU hb3 x0 x1 hq
          generalize g U = x at *
          generalize g k = y at *
          generalize prow g k = n at *
          go_wp2_with fail
          go_quiet ((go_at_call 188; exact Calls.quiet_of_same ((l1In_no _ _ _ _ HQ.out).mono fun e w2 h => ⟨h.1, h.2.symm⟩)))
          go_wp2_with fail
          go_roundg m
          case rel => exact ⟨U, by have := HU.out; omega, by go_num, by rw [HS.out], k1.drewN _, below_drewN hb.out _⟩
          case measure => omega
      · have d0 : (g U == g k) = false := by simpa using hp
        have HS : Hid (prow g U = prow g k) := by show prow g U = _; rw [hU]; exact prow_no (by rw [← hU]; exact fun h => hp h.1)
        clear hU hp eU hb3 x0 x1
        generalize g U = x at *
        generalize g k = y at *
        generalize prow g k = n at *
        go_wp2_with fail
        go_quiet (fail)
        go_wp2_with fail
        go_roundg m
        case rel => exact ⟨U, by have := HU.out; omega, by go_num, by rw [HS.out], k1.drewN _, below_drewN hb.out _⟩
        case measure => omega

set_option maxHeartbeats 1000000 in
theorem pairsInRows_any (f : Nat → Int) (w : World) (hf : Vd f) :
    Calls Try.prog 285 #[.agg (mk 16 f)] w fun e w' => e = .returned (.int .i64 (prows f 4)) ∧ Below w.heap.size w w' := by
  have z4 := zero4
  have iG := idxG
  have HV := Lib.hid hf
  clear hf
  have K := Blk.new w 16 f 47
  have HB := Lib.hid ((Below.refl w.heap.size w).alloc (Nat.le_refl _) (.cells (mk 16 f) 47))
  go_enter Try.func285, Try.ntmps285
  go_wp2_with ((with_reducible show wpList _ _ _ (Oper.mk _ (Op.load 45 _) _ _ _ _ :: _) _ _); refine loadG (K) rfl rfl rfl ?_)
  generalize w.alloc (.cells (mk 16 f) 47) = w1 at *
  clear K
  go_loopg [9, 3] 4 (fun g s9 s3 wr => ∃ r : Nat, r + g = 4 ∧ s9 = .int .i64 r ∧ s3 = .int .i64 (prows f r) ∧ Hid (Below w.heap.size w wr))
  case atStart => exact ⟨0, by omega, rfl, rfl, HB⟩
  case round =>
    obtain ⟨r, hrg, rfl, rfl, hb⟩ := hrel
    cases gk with
    | zero =>
      have hr : ¬ ((r : Int) < 4) := by omega
      obtain rfl : r = 4 := by omega
      clear hrg hr
      go_wp2_with fail
      go_ret
      exact ⟨rfl, hb.out⟩
    | succ gg =>
      have hr4 : (r : Int) < 4 := by omega
      have hr5 : r < 4 := by omega
      have HR : Hid (VdRow (fun c => f (r * 4 + c))) := fun c hc => HV.out _ (by omega)
      have HS : Hid (prows f (r + 1) = prows f r + prow (fun c => f (r * 4 + c)) 3) := rfl
      have hbd := prows_bd f r
      have P0 := hbd.1
      have P1 : prows f r ≤ 12 := by omega
      clear hbd
      go_wp2_with fail
      have kr := Blk.new wr 4 (fun c => f (r * 4 + c)) 44
      have HB2 : Hid (Below w.heap.size w (wr.alloc (.cells (mk 4 fun c => f (r * 4 + c)) 44))) := hb.out.alloc hb.out.size _
      generalize wr.alloc (.cells (mk 4 fun c => f (r * 4 + c)) 44) = w2 at *
      generalize (fun c => f (r * 4 + c)) = g at *
      generalize prows f r = P at *
      go_loopg [6, 3] 3 (fun m s6 s3 wx => ∃ k : Nat, k + m = 3 ∧ s6 = .int .i64 ((k + 1 : Nat) : Int) ∧ s3 = .int .i64 (P + prow g k) ∧ Blk wx wr.heap.size 4 g 44 ∧ Hid (Below w.heap.size w wx))
      case atStart => exact ⟨0, by omega, rfl, by rw [show prow g 0 = 0 from rfl, Int.add_zero], kr, HB2⟩
      case round =>
        obtain ⟨k, hkm, rfl, rfl, k1, hb⟩ := hrel
        cases gk with
        | zero =>
          have hk : ¬ (((k + 1 : Nat) : Int) < 4) := by omega
          have HK : Hid (k = 3) := by show k = 3; omega
          clear hkm
          go_wp2_with fail
          go_roundg gg
          case rel => exact ⟨r + 1, by omega, by go_num, by rw [HS.out, HK.out], hb⟩
          case measure => omega
        | succ m =>
          have hk2 : k < 3 := by omega
          obtain ⟨U, hU⟩ : ∃ U, U = k + 1 := ⟨_, rfl⟩
          have c1 := k1.cell (i := U) (by omega)
          have c2 := k1.cell (i := U - 1) (by omega)
          have eU : g (U - 1) = g k := by congr 1; omega
          rw [eU] at c2
          obtain ⟨x0, x1⟩ := HR.out U (by omega)
          have hb3 := prow_bd g k
          have n0 := hb3.1
          have n1 : prow g k ≤ 3 := by omega
          rw [← hU]
          have hU0 : (1 : Int) ≤ (U : Int) := by omega
          have hU1 : (U : Int) < 4 := by omega
          have hU2 : (0 : Int) ≤ (U : Int) - 1 := by omega
          have hU3 : (U : Int) - 1 < 4 := by omega
          have hU4 : (0 : Int) ≤ (U : Int) := by omega
          have HU := Lib.hid hU
          by_cases hp : g U = g k
          · have d0 : (g U == g k) = true := by simpa using hp
            by_cases hz : g U = 0
            · have HQ : Hid (prow g U = prow g k) := by show prow g U = _; rw [hU]; exact prow_no (by rw [← hU]; exact fun h => by omega)
              have d1 : (g U != 0) = false := by simpa using hz
              clear hU hp eU hb3 x0 x1 hz
              generalize g U = x at *
              generalize g k = y at *
              generalize prow g k = n at *
              go_wp2_with fail
              go_quiet (fail)
              go_wp2_with fail
              go_roundg m
              case rel => exact ⟨U, by have := HU.out; omega, by go_num, by rw [HQ.out], k1.drewN _, below_drewN hb.out _⟩
              case measure => omega
            · have d1 : (g U != 0) = true := by simpa using hz
              by_cases hq : g U < 17
              · have HQ : Hid (prow g U = prow g k + 1) := by show prow g U = _; rw [hU]; exact prow_yes (by rw [← hU]; exact ⟨hp, by omega, by omega⟩)
                clear hU hp eU hb3 x0 x1 hz
                generalize g U = x at *
                generalize g k = y at *
                generalize prow g k = n at *
                go_wp2_with fail
                go_quiet (fail)
                go_wp2_with fail
                go_roundg m
                case rel => exact ⟨U, by have := HU.out; omega, by go_num, by rw [HQ.out, ← Int.add_assoc], k1.drewN _, below_drewN hb.out _⟩
                case measure => omega
              · have HQ : Hid (prow g U = prow g k) := by show prow g U = _; rw [hU]; exact prow_no (by rw [← hU]; exact fun h => by omega)
                have d2 : decide (g U < 17) = false := by simp; omega
                clear hU hp eU hb3 x0 x1 hz hq
                generalize g U = x at *
                generalize g k = y at *
                generalize prow g k = n at *
                go_wp2_with fail
                go_quiet (fail)
                go_wp2_with fail
                go_roundg m
                case rel => exact ⟨U, by have := HU.out; omega, by go_num, by rw [HQ.out], k1.drewN _, below_drewN hb.out _⟩
                case measure => omega
          · have d0 : (g U == g k) = false := by simpa using hp
            have HQ : Hid (prow g U = prow g k) := by show prow g U = _; rw [hU]; exact prow_no (by rw [← hU]; exact fun h => hp h.1)
            clear hU hp eU hb3 x0 x1
            generalize g U = x at *
            generalize g k = y at *
            generalize prow g k = n at *
            go_wp2_with fail
            go_quiet (fail)
            go_wp2_with fail
            go_roundg m
            case rel => exact ⟨U, by have := HU.out; omega, by go_num, by rw [HQ.out], k1.drewN _, below_drewN hb.out _⟩
            case measure => omega
end Go.Proofs.Ytblcojacmjbjcab
