/-
  The contracts of SumOf, in the reference and in the program, for every board.
-/
import Derived.Test.YtblcojacmjbjcabCount
import Derived.Test.YtblcojacmjbjcabPlainA
namespace Go.Proofs.Ytblcojacmjbjcab
open Go.RowKit Plain
attribute [local go_sem] store_new

set_option maxHeartbeats 1000000 in
theorem l2Sum_any (f : Nat → Int) (w : World) (hf : Vd f) :
    Calls Try.prog 203 #[.agg (mk 16 f)] w fun e w' => e = .returned (.int .i64 (sumF f 16)) ∧ Below w.heap.size w w' := by
  have HV := Lib.hid hf
  clear hf
  go_enter Try.func203, Try.ntmps203
  go_wp2_with fail
  have K := Blk.new w 16 f 47
  have HB := Lib.hid ((Below.refl w.heap.size w).alloc (Nat.le_refl _) (.cells (mk 16 f) 47))
  generalize w.alloc (.cells (mk 16 f) 47) = w1 at *
  go_loopg [4, 3] 4 (fun g s4 s3 wx => ∃ r : Nat, r + g = 4 ∧ s4 = .int .i64 r ∧ s3 = .int .i64 (sumF f (r * 4)) ∧ w1 = wx)
  case atStart => exact ⟨0, by omega, rfl, rfl, rfl⟩
  case round =>
    obtain ⟨r, hrg, rfl, rfl, rfl⟩ := hrel
    cases gk with
    | zero =>
      have hr : ¬ ((r : Int) < 4) := by omega
      obtain rfl : r = 4 := by omega
      clear hrg hr
      go_wp2_with fail
      go_ret
      exact ⟨rfl, HB.out⟩
    | succ g =>
      have hr4 : (r : Int) < 4 := by omega
      go_wp2_with fail
      go_loopg [5, 3] 4 (fun h s5 s3 wx => ∃ c : Nat, c + h = 4 ∧ s5 = .int .i64 c ∧ s3 = .int .i64 (sumF f (r * 4 + c)) ∧ w1 = wx)
      case atStart => exact ⟨0, by omega, rfl, rfl, rfl⟩
      case round =>
        obtain ⟨c, hch, rfl, rfl, rfl⟩ := hrel
        cases gk with
        | zero =>
          have hc : ¬ ((c : Int) < 4) := by omega
          have HC : Hid (r * 4 + c = (r + 1) * 4) := by show _ = _; omega
          go_wp2_with fail
          go_roundg g
          case rel => exact ⟨r + 1, by omega, by go_num, by rw [HC.out], rfl⟩
          case measure => omega
        | succ h =>
          have hc : (c : Int) < 4 := by omega
          have k1 := K.cell (i := r * 4 + c) (by omega)
          obtain ⟨x0, x1⟩ := HV.out (r * 4 + c) (by omega)
          obtain ⟨s0, s1⟩ := sumF_bd HV.out (r * 4 + c) (by omega)
          have s2 : sumF f (r * 4 + c) ≤ 4194304 := by omega
          have HS : Hid (sumF f (r * 4 + (c + 1)) = sumF f (r * 4 + c) + worthZ (f (r * 4 + c))) := rfl
          generalize sumF f (r * 4 + c) = S at *
          generalize f (r * 4 + c) = x at *
          by_cases hx : 0 < x
          · obtain ⟨w0, w1'⟩ := worth_bd x0 (show x ≤ 18 by omega)
            have HW : Hid (worthZ x = worth x) := if_pos hx
            go_wp2_with fail
            refine (l2Worth_any _ _ x0 (by omega)).mono ?_
            rintro e w' ⟨rfl, rfl⟩
            generalize worth x = v at *
            go_wp2_with fail
            go_roundg h
            case rel => exact ⟨c + 1, by omega, by go_num, by rw [HS.out, HW.out], rfl⟩
            case measure => omega
          · have hx2 : x ≤ 0 := by omega
            have HW : Hid (worthZ x = 0) := if_neg hx
            go_wp2_with fail
            go_roundg h
            case rel => exact ⟨c + 1, by omega, by go_num, by rw [HS.out, HW.out, Int.add_zero], rfl⟩
            case measure => omega

set_option maxHeartbeats 1000000 in
theorem implSum_any (f : Nat → Int) (w : World) :
    Calls Try.prog 90 #[.agg (mk 16 f)] w fun e w' => e = .returned (.tuple #[.int .i64 (sumR f), .bool (vdO f)]) ∧ Below w.heap.size w w' := by
  have z18 := zero18
  have K := Blk.new w 16 f 47
  have HB := Lib.hid ((Below.refl w.heap.size w).alloc (Nat.le_refl _) (.cells (mk 16 f) 47))
  by_cases hV : Vd f
  · rw [sumR_yes hV, vdO_yes hV]
    have HV := Lib.hid hV
    go_enter Try.func90, Try.ntmps90
    go_wp2_with ((with_reducible show wpList _ _ _ (Oper.mk _ (Op.load 47 _) _ _ _ _ :: _) _ _); refine loadB (K) rfl rfl rfl ?_)
    refine (implCount_any _ _).mono ?_
    rw [cntR_yes hV, vdO_yes hV]
    clear hV
    rintro e w1 ⟨rfl, hb⟩
    have HB1 : Hid (Below w.heap.size w w1) := HB.out.trans (hb.mono HB.out.size)
    have HB : Hid (Below w.heap.size w (w1.alloc (.cells (mk 18 (cntF f 16)) 140))) := HB1.out.alloc HB1.out.size _
    have k4 := Blk.new w1 18 (cntF f 16) 140
    clear hb K HB1
    go_wp2_with fail
    generalize w1.alloc (.cells (mk 18 (cntF f 16)) 140) = w2 at *
    go_loopg [7, 6] 17 (fun g s7 s6 wr => ∃ T : Nat, T + g = 17 ∧ s7 = .int .i64 ((T + 1 : Nat) : Int) ∧ s6 = .int .i64 (sumT f 16 T) ∧ Blk wr w1.heap.size 18 (cntF f 16) 140 ∧ Hid (Below w.heap.size w wr))
    case atStart => exact ⟨0, by omega, rfl, rfl, k4, HB⟩
    case round =>
      obtain ⟨T, hTg, rfl, rfl, k4, hb⟩ := hrel
      cases gk with
      | zero =>
        have hT : ¬ (((T + 1 : Nat) : Int) ≤ 17) := by omega
        obtain rfl : T = 17 := by omega
        have HE : Hid (sumT f 16 17 = sumF f 16) := sumT_all HV.out 16 (by omega)
        clear hTg hT
        go_wp2_with fail
        go_ret2
        exact ⟨by rw [← HE.out]; rfl, hb.out⟩
      | succ g =>
        have HT : Hid (sumT f 16 (T + 1) = sumT f 16 T + cntF f 16 (T + 1) * worth ((T + 1 : Nat) : Int)) := rfl
        obtain ⟨p0, p1⟩ := term_bd f 16 (by omega) (T + 1) (by omega)
        obtain ⟨s0, s1⟩ := sumT_bd f 16 (by omega) T (by omega)
        have s2 : sumT f 16 T ≤ 75497472 := by omega
        obtain ⟨U, hU⟩ : ∃ U, U = T + 1 := ⟨_, rfl⟩
        have c4 := k4.cell (i := U) (by omega)
        rw [← hU] at HT p0 p1 ⊢
        have hU0 : (0 : Int) ≤ (U : Int) := by omega
        have hU1 : (U : Int) ≤ 17 := by omega
        have hU2 : (U : Int) < 18 := by omega
        have HU := Lib.hid hU
        generalize sumT f 16 T = S at *
        generalize cntF f 16 U = n at c4 HT p0 p1
        generalize hv : worth (U : Int) = v at HT p0 p1
        have ew : IntKind.i64.wrap (n * v) = n * v := IntWalk.i64_in _ (by omega)
        have ew2 : IntKind.i64.wrap (S + n * v) = S + n * v := IntWalk.i64_in _ (by omega)
        have HVv := Lib.hid hv
        clear hU hv
        go_wp2_with fail
        go_quiet ((go_at_call 171; exact Calls.quiet_of_same ((worthOf_any _ _ hU0 (by omega)).mono fun e w2 h => ⟨by rw [h.1, HVv.out], h.2.symm⟩)))
        clear ew ew2
        go_wp2_with fail
        go_roundg g
        case rel => exact ⟨U, by have := HU.out; omega, by go_num, by rw [HT.out], k4.drewN _, below_drewN hb.out _⟩
        case measure => omega
  · rw [sumR_no hV, vdO_no hV]
    go_enter Try.func90, Try.ntmps90
    go_wp2_with ((with_reducible show wpList _ _ _ (Oper.mk _ (Op.load 47 _) _ _ _ _ :: _) _ _); refine loadB (K) rfl rfl rfl ?_)
    refine (implCount_any _ _).mono ?_
    rw [cntR_no hV, vdO_no hV]
    clear hV
    rintro e w1 ⟨rfl, hb⟩
    have HB1 : Hid (Below w.heap.size w w1) := HB.out.trans (hb.mono HB.out.size)
    have HB : Hid (Below w.heap.size w (w1.alloc (.cells (mk 18 fun _ => 0) 140))) := HB1.out.alloc HB1.out.size _
    clear hb K HB1
    go_wp2_with fail
    go_ret2
    exact ⟨rfl, HB.out⟩
end Go.Proofs.Ytblcojacmjbjcab
