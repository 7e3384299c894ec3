/-
  The contracts of PotentialOf, in the reference and in the program, for every board.
-/
import Derived.Test.YtmcmpedmgibmkaaCount
import Derived.Test.YtmcmpedmgibmkaaBoundA
namespace Go.Proofs.Ytmcmpedmgibmkaa
open Go.RowKit Plain
attribute [local go_sem] store_new

set_option maxHeartbeats 1000000 in
theorem l7Pot_any (f : Nat → Int) (w : World) (hf : Vd f) :
    Calls Try.prog 50 #[.agg (mk 16 f)] w fun e w' => e = .returned (.int .i64 (potF f 16)) ∧ Below w.heap.size w w' := by
  have HV := Lib.hid hf
  clear hf
  go_enter Try.func50, Try.ntmps50
  go_wp2_with fail
  have K := Blk.new w 16 f 28
  have HB := Lib.hid ((Below.refl w.heap.size w).alloc (Nat.le_refl _) (.cells (mk 16 f) 28))
  generalize w.alloc (.cells (mk 16 f) 28) = w1 at *
  go_loopg [4, 3] 4 (fun g s4 s3 wx => ∃ r : Nat, r + g = 4 ∧ s4 = .int .i64 r ∧ s3 = .int .i64 (potF f (r * 4)) ∧ w1 = wx)
  case atStart => exact ⟨0, by omega, rfl, rfl, rfl⟩
  case round =>
    obtain ⟨r, hrg, rfl, rfl, rfl⟩ := hrel
    cases gk with
    | zero =>
      have hr : ¬ ((r : Int) < 4) := by omega
      obtain rfl : r = 4 := by omega
      clear hrg hr
      go_wp2_with fail
      go_ret
      exact ⟨rfl, HB.out⟩
    | succ g =>
      have hr4 : (r : Int) < 4 := by omega
      go_wp2_with fail
      go_loopg [5, 3] 4 (fun h s5 s3 wx => ∃ c : Nat, c + h = 4 ∧ s5 = .int .i64 c ∧ s3 = .int .i64 (potF f (r * 4 + c)) ∧ w1 = wx)
      case atStart => exact ⟨0, by omega, rfl, rfl, rfl⟩
      case round =>
        obtain ⟨c, hch, rfl, rfl, rfl⟩ := hrel
        cases gk with
        | zero =>
          have hc : ¬ ((c : Int) < 4) := by omega
          have HC : Hid (r * 4 + c = (r + 1) * 4) := by show _ = _; omega
          go_wp2_with fail
          go_roundg g
          case rel => exact ⟨r + 1, by omega, by go_num, by rw [HC.out], rfl⟩
          case measure => omega
        | succ h =>
          have hc : (c : Int) < 4 := by omega
          have k1 := K.cell (i := r * 4 + c) (by omega)
          obtain ⟨x0, x1⟩ := HV.out (r * 4 + c) (by omega)
          obtain ⟨s0, s1⟩ := potF_bd HV.out (r * 4 + c) (by omega)
          have s2 : potF f (r * 4 + c) ≤ 67108864 := by omega
          have HS : Hid (potF f (r * 4 + (c + 1)) = potF f (r * 4 + c) + potZ (f (r * 4 + c))) := rfl
          generalize potF f (r * 4 + c) = S at *
          generalize f (r * 4 + c) = x at *
          by_cases hx : 0 < x
          · obtain ⟨w0, w1'⟩ := worth_bd x0 (show x ≤ 18 by omega)
            obtain ⟨p0, p1⟩ := potW_bd (t := x) (by omega) x1
            have HW : Hid (potZ x = (x - 1) * worth x) := if_pos hx
            go_wp2_with fail
            refine (l2Worth_any _ _ x0 (by omega)).mono ?_
            rintro e w' ⟨rfl, rfl⟩
            generalize worth x = v at *
            have ew : IntKind.i64.wrap ((x - 1) * v) = (x - 1) * v := IntWalk.i64_in _ (by omega)
            have ew2 : IntKind.i64.wrap (S + (x - 1) * v) = S + (x - 1) * v := IntWalk.i64_in _ (by omega)
            go_wp2_with fail
            go_roundg h
            case rel => exact ⟨c + 1, by omega, by go_num, by rw [HS.out, HW.out], rfl⟩
            case measure => omega
          · have hx2 : x ≤ 0 := by omega
            have HW : Hid (potZ x = 0) := if_neg hx
            go_wp2_with fail
            go_roundg h
            case rel => exact ⟨c + 1, by omega, by go_num, by rw [HS.out, HW.out, Int.add_zero], rfl⟩
            case measure => omega

theorem specPot_any (f : Nat → Int) (w : World) :
    Calls Try.prog 14 #[.agg (mk 16 f)] w fun e w' => e = .returned (.tuple #[.int .i64 (potR f), .bool (vdO f)]) ∧ Below w.heap.size w w' := by
  have K := Blk.new w 16 f 28
  have HB := Lib.hid ((Below.refl w.heap.size w).alloc (Nat.le_refl _) (.cells (mk 16 f) 28))
  by_cases hV : Vd f
  · rw [potR_yes hV, vdO_yes hV]
    have HV := Lib.hid hV
    clear hV
    go_enter Try.func14, Try.ntmps14
    go_wp2_with ((with_reducible show wpList _ _ _ (Oper.mk _ (Op.load 28 _) _ _ _ _ :: _) _ _); refine loadB (K) rfl rfl rfl ?_)
    refine (l2Board_yes _ _ HV.out).mono ?_
    rintro e w1 ⟨rfl, hb⟩
    have K := K.below hb K.lt
    have HB : Hid (Below w.heap.size w w1) := HB.out.trans (hb.mono HB.out.size)
    clear hb
    go_wp2_with ((with_reducible show wpList _ _ _ (Oper.mk _ (Op.load 28 _) _ _ _ _ :: _) _ _); refine loadB (K) rfl rfl rfl ?_)
    refine (l7Pot_any _ _ HV.out).mono ?_
    rintro e w2 ⟨rfl, hb⟩
    have HB : Hid (Below w.heap.size w w2) := HB.out.trans (hb.mono HB.out.size)
    clear hb K
    go_wp2_with fail
    go_ret2
    exact ⟨rfl, HB.out⟩
  · rw [potR_no hV, vdO_no hV]
    have HV := Lib.hid hV
    clear hV
    go_enter Try.func14, Try.ntmps14
    go_wp2_with ((with_reducible show wpList _ _ _ (Oper.mk _ (Op.load 28 _) _ _ _ _ :: _) _ _); refine loadB (K) rfl rfl rfl ?_)
    refine (l2Board_no _ _ HV.out).mono ?_
    rintro e w1 ⟨rfl, hb⟩
    have HB : Hid (Below w.heap.size w w1) := HB.out.trans (hb.mono HB.out.size)
    clear hb K
    go_wp2_with fail
    go_ret2
    exact ⟨rfl, HB.out⟩

set_option maxHeartbeats 1000000 in
theorem tilePot_any (t : Int) (w : World) (h0 : 1 ≤ t) (h1 : t ≤ 17) :
    Calls Try.prog 52 #[.int .i64 t] w fun e w' => e = .returned (.int .i64 ((t - 1) * worth t)) ∧ w = w' := by
  obtain ⟨p0, p1⟩ := potW_bd h0 h1
  have HW := Lib.hid (worthOf_any t w (by omega) (by omega))
  generalize worth t = v at *
  have ew : IntKind.i64.wrap ((t - 1) * v) = (t - 1) * v := IntWalk.i64_in _ (by omega)
  go_enter Try.func52, Try.ntmps52
  go_wp2_with fail
  refine HW.out.mono ?_
  rintro e w' ⟨rfl, rfl⟩
  clear HW
  go_wp2_with fail
  go_ret
  exact ⟨rfl, rfl⟩
set_option maxHeartbeats 1000000 in
theorem implPot_any (f : Nat → Int) (w : World) :
    Calls Try.prog 16 #[.agg (mk 16 f)] w fun e w' => e = .returned (.tuple #[.int .i64 (potR f), .bool (vdO f)]) ∧ Below w.heap.size w w' := by
  have z18 := zero18
  have K := Blk.new w 16 f 28
  have HB := Lib.hid ((Below.refl w.heap.size w).alloc (Nat.le_refl _) (.cells (mk 16 f) 28))
  have HE : Hid (potG (cntR f) 17 = potR f) := potR_cnt f
  have HC := Lib.hid (cntR_bd f)
  have HCN := Lib.hid (implCount_any f)
  generalize cntR f = c at *
  generalize vdO f = O at *
  generalize potR f = R at *
  go_enter Try.func16, Try.ntmps16
  go_wp2_with ((with_reducible show wpList _ _ _ (Oper.mk _ (Op.load 28 _) _ _ _ _ :: _) _ _); refine loadB (K) rfl rfl rfl ?_)
  refine (HCN.out _).mono ?_
  clear HCN
  rintro e w1 ⟨rfl, hb⟩
  have HB1 : Hid (Below w.heap.size w w1) := HB.out.trans (hb.mono HB.out.size)
  have HB : Hid (Below w.heap.size w (w1.alloc (.cells (mk 18 c) 58))) := HB1.out.alloc HB1.out.size _
  have k4 := Blk.new w1 18 c 58
  clear hb K HB1
  go_wp2_with fail
  generalize w1.alloc (.cells (mk 18 c) 58) = w2 at *
  go_loopg [7, 6] 17 (fun g s7 s6 wr => ∃ T : Nat, T + g = 17 ∧ s7 = .int .i64 ((T + 1 : Nat) : Int) ∧ s6 = .int .i64 (potG c T) ∧ Blk wr w1.heap.size 18 c 58 ∧ Hid (Below w.heap.size w wr))
  case atStart => exact ⟨0, by omega, rfl, rfl, k4, HB⟩
  case round =>
    obtain ⟨T, hTg, rfl, rfl, k4, hb⟩ := hrel
    cases gk with
    | zero =>
      have hT : ¬ (((T + 1 : Nat) : Int) ≤ 17) := by omega
      obtain rfl : T = 17 := by omega
      clear hTg hT
      go_wp2_with fail
      go_ret2
      exact ⟨by rw [← HE.out]; rfl, hb.out⟩
    | succ g =>
      have HT : Hid (potG c (T + 1) = potG c T + c (T + 1) * ((((T + 1 : Nat) : Int) - 1) * worth ((T + 1 : Nat) : Int))) := rfl
      obtain ⟨p0, p1⟩ := ptm_bd HC.out (T + 1) (by omega) (by omega)
      obtain ⟨s0, s1⟩ := potG_bd HC.out T (by omega)
      have s2 : potG c T ≤ 1207959552 := by omega
      obtain ⟨U, hU⟩ : ∃ U, U = T + 1 := ⟨_, rfl⟩
      have c4 := k4.cell (i := U) (by omega)
      rw [← hU] at HT p0 p1 ⊢
      have hU0 : (1 : Int) ≤ (U : Int) := by omega
      have hU1 : (U : Int) ≤ 17 := by omega
      have hU2 : (U : Int) < 18 := by omega
      have HU := Lib.hid hU
      generalize potG c T = S at *
      generalize c U = n at c4 HT p0 p1
      generalize hv : ((U : Int) - 1) * worth (U : Int) = v at HT p0 p1
      have ew : IntKind.i64.wrap (n * v) = n * v := IntWalk.i64_in _ (by omega)
      have ew2 : IntKind.i64.wrap (S + n * v) = S + n * v := IntWalk.i64_in _ (by omega)
      have HVv := Lib.hid hv
      clear hU hv
      go_wp2_with fail
      go_quiet ((go_at_call 52; exact Calls.quiet_of_same ((tilePot_any _ _ hU0 (by omega)).mono fun e w2 h => ⟨by rw [h.1, HVv.out], h.2.symm⟩)))
      clear ew ew2
      go_wp2_with fail
      go_roundg g
      case rel => exact ⟨U, by have := HU.out; omega, by go_num, by rw [HT.out], k4.drewN _, below_drewN hb.out _⟩
      case measure => omega
end Go.Proofs.Ytmcmpedmgibmkaa
