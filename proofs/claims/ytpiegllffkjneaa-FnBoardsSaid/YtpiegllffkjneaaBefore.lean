/-
  The contract of l2Before: whether a board comes before another one.
-/
import Derived.Test.YtpiegllffkjneaaLess
import Derived.Test.YtpiegllffkjneaaBaseA
import Derived.Test.YtpiegllffkjneaaPlainA
import Derived.Deep.QuietTactic
import Derived.BigQuiet
import Derived.Deep.RegionHeld3
namespace Go.Proofs.Ytpiegllffkjneaa
open Go.RowKit Plain
attribute [local go_sem] store_new

set_option maxHeartbeats 1000000 in
set_option maxRecDepth 20000 in
theorem l2Before_any (f g : Nat → Int) (w : World) :
    Calls Try.prog 125 #[.agg (mk 16 f), .agg (mk 16 g)] w fun e w' => e = .returned (.bool (lessB f g)) ∧ Below w.heap.size w w' := by
  have K1 := (Blk.new w 16 f 27).alloc (.cells (mk 16 g) 27)
  have K2 := Blk.new (w.alloc (.cells (mk 16 f) 27)) 16 g 27
  have HB := Lib.hid (((Below.refl w.heap.size w).alloc (Nat.le_refl _) (.cells (mk 16 f) 27)).alloc (by simp) (.cells (mk 16 g) 27))
  simp only [World.size_alloc] at K2
  go_enter Try.func125, Try.ntmps125
  go_wp2_with fail
  generalize (w.alloc (.cells (mk 16 f) 27)).alloc (.cells (mk 16 g) 27) = w1 at *
  go_loopg [5] 4 (fun n s5 wr => ∃ r : Nat, r + n = 4 ∧ s5 = .int .i64 r ∧ (∀ i, i < r * 4 → f i = g i) ∧ Blk wr w.heap.size 16 f 27 ∧ Blk wr (w.heap.size + 1) 16 g 27 ∧ Hid (Below w.heap.size w wr))
  case atStart => exact ⟨0, by omega, rfl, fun i hi => by omega, K1, K2, HB⟩
  case round =>
    obtain ⟨r, hrg, rfl, he, k1, k2, hb⟩ := hrel
    have HE := Lib.hid he
    clear he
    cases gk with
    | zero =>
      have hr : ¬ ((r : Int) < 4) := by omega
      obtain rfl : r = 4 := by omega
      have HL := Lib.hid (lessB_none HE.out)
      clear hrg hr
      go_wp2_with fail
      go_ret
      exact ⟨by rw [HL.out]; rfl, hb.out⟩
    | succ n =>
      have hr4 : (r : Int) < 4 := by omega
      go_wp2_with fail
      go_loopg [6] 4 (fun m s6 wx => ∃ c : Nat, c + m = 4 ∧ s6 = .int .i64 c ∧ (∀ i, i < r * 4 + c → f i = g i) ∧ Blk wx w.heap.size 16 f 27 ∧ Blk wx (w.heap.size + 1) 16 g 27 ∧ Hid (Below w.heap.size w wx))
      case atStart => exact ⟨0, by omega, rfl, HE.out, k1, k2, hb⟩
      case round =>
        obtain ⟨c, hch, rfl, he, k1, k2, hb⟩ := hrel
        have HE := Lib.hid he
        clear he
        cases gk with
        | zero =>
          have hc : ¬ ((c : Int) < 4) := by omega
          go_wp2_with fail
          go_roundg n
          case rel => exact ⟨r + 1, by omega, by go_num, fun i hi => HE.out i (by omega), k1, k2, hb⟩
          case measure => omega
        | succ m =>
          have hc : (c : Int) < 4 := by omega
          have hr0 : (0 : Int) ≤ (r : Int) := by omega
          have hc0 : (0 : Int) ≤ (c : Int) := by omega
          have c1 := k1.cell (i := r * 4 + c) (by omega)
          have c2 := k2.cell (i := r * 4 + c) (by omega)
          by_cases hq : f (r * 4 + c) = g (r * 4 + c)
          · have HQ := Lib.hid hq
            rw [← hq] at c2
            clear hq
            generalize f (r * 4 + c) = x at c1 c2
            go_wp2_with fail
            go_quiet (fail)
            go_wp2_with fail
            go_roundg m
            case rel => exact ⟨c + 1, by omega, by go_num, fun i hi => by
              by_cases e : i = r * 4 + c
              · subst e; exact HQ.out
              · exact HE.out i (by omega), k1.drewN _, k2.drewN _, below_drewN hb.out _⟩
            case measure => omega
          · have HL := Lib.hid (lessB_at (by omega) HE.out hq)
            have q1 : (f (r * 4 + c) != g (r * 4 + c)) = true := by simpa using hq
            clear hq
            go_wp2_with fail
            go_quiet (fail)
            go_wp2_with fail
            go_quiet (fail)
            go_wp2_with fail
            go_ret
            exact ⟨by rw [HL.out]; rfl, below_drewN (below_drewN hb.out _) _⟩

set_option maxHeartbeats 1000000 in
set_option maxRecDepth 20000 in
theorem specLess_any (f g : Nat → Int) (w : World) :
    Calls Try.prog 51 #[.agg (mk 16 f), .agg (mk 16 g)] w fun e w' => e = .returned (.tuple #[.bool (lessR f g), .bool (lessO f g)]) ∧ Below w.heap.size w w' := by
  have K1 := (Blk.new w 16 f 27).alloc (.cells (mk 16 g) 27)
  have K2 := Blk.new (w.alloc (.cells (mk 16 f) 27)) 16 g 27
  have HB := Lib.hid (((Below.refl w.heap.size w).alloc (Nat.le_refl _) (.cells (mk 16 f) 27)).alloc (by simp) (.cells (mk 16 g) 27))
  simp only [World.size_alloc] at K2
  by_cases hV : Vd f
  · by_cases hW : Vd g
    · obtain ⟨y1, y2⟩ := less_yes hV hW
      rw [y1, y2]
      clear y1 y2
      have HV := Lib.hid hV
      have HW := Lib.hid hW
      clear hV hW
      go_enter Try.func51, Try.ntmps51
      go_wp2_with ((with_reducible show wpList _ _ _ (Oper.mk _ (Op.load 27 _) _ _ _ _ :: _) _ _); refine loadB (K1) rfl rfl rfl ?_)
      refine (l2Board_yes _ _ HV.out).mono ?_
      rintro e w1 ⟨rfl, hb2⟩
      have K1 := K1.below hb2 K1.lt
      have K2 := K2.below hb2 K2.lt
      have HB : Hid (Below w.heap.size w w1) := HB.out.trans (hb2.mono HB.out.size)
      clear hb2
      go_wp2_with ((with_reducible show wpList _ _ _ (Oper.mk _ (Op.load 27 _) _ _ _ (some _) :: _) _ _); refine loadgB (K2) rfl rfl rfl ?_)
      refine (l2Board_yes _ _ HW.out).mono ?_
      rintro e w2 ⟨rfl, hb2⟩
      have K1 := K1.below hb2 K1.lt
      have K2 := K2.below hb2 K2.lt
      have HB : Hid (Below w.heap.size w w2) := HB.out.trans (hb2.mono HB.out.size)
      clear hb2
      go_wp2_with (first | ((with_reducible show wpList _ _ _ (Oper.mk _ (Op.load 27 _) _ _ _ _ :: _) _ _); refine loadB (K1) rfl rfl rfl ?_) | ((with_reducible show wpList _ _ _ (Oper.mk _ (Op.load 27 _) _ _ _ _ :: _) _ _); refine loadB (K2) rfl rfl rfl ?_))
      refine (l2Before_any _ _ _).mono ?_
      rintro e w3 ⟨rfl, hb2⟩
      have K1 := K1.below hb2 K1.lt
      have K2 := K2.below hb2 K2.lt
      have HB : Hid (Below w.heap.size w w3) := HB.out.trans (hb2.mono HB.out.size)
      clear hb2
      go_wp2_with fail
      go_ret2
      exact ⟨rfl, HB.out⟩
    · obtain ⟨y1, y2⟩ := less_no2 (f := f) hW
      rw [y1, y2]
      clear y1 y2
      have HV := Lib.hid hV
      have HW := Lib.hid hW
      clear hV hW
      go_enter Try.func51, Try.ntmps51
      go_wp2_with ((with_reducible show wpList _ _ _ (Oper.mk _ (Op.load 27 _) _ _ _ _ :: _) _ _); refine loadB (K1) rfl rfl rfl ?_)
      refine (l2Board_yes _ _ HV.out).mono ?_
      rintro e w1 ⟨rfl, hb2⟩
      have K1 := K1.below hb2 K1.lt
      have K2 := K2.below hb2 K2.lt
      have HB : Hid (Below w.heap.size w w1) := HB.out.trans (hb2.mono HB.out.size)
      clear hb2
      go_wp2_with ((with_reducible show wpList _ _ _ (Oper.mk _ (Op.load 27 _) _ _ _ (some _) :: _) _ _); refine loadgB (K2) rfl rfl rfl ?_)
      refine (l2Board_no _ _ HW.out).mono ?_
      rintro e w2 ⟨rfl, hb2⟩
      have K1 := K1.below hb2 K1.lt
      have K2 := K2.below hb2 K2.lt
      have HB : Hid (Below w.heap.size w w2) := HB.out.trans (hb2.mono HB.out.size)
      clear hb2
      go_wp2_with fail
      go_ret2
      exact ⟨rfl, HB.out⟩
  · obtain ⟨y1, y2⟩ := less_no1 (g := g) hV
    rw [y1, y2]
    clear y1 y2
    have HV := Lib.hid hV
    clear hV
    go_enter Try.func51, Try.ntmps51
    go_wp2_with ((with_reducible show wpList _ _ _ (Oper.mk _ (Op.load 27 _) _ _ _ _ :: _) _ _); refine loadB (K1) rfl rfl rfl ?_)
    refine (l2Board_no _ _ HV.out).mono ?_
    rintro e w1 ⟨rfl, hb2⟩
    have K1 := K1.below hb2 K1.lt
    have K2 := K2.below hb2 K2.lt
    have HB : Hid (Below w.heap.size w w1) := HB.out.trans (hb2.mono HB.out.size)
    clear hb2
    go_wp2_with fail
    go_ret2
    exact ⟨rfl, HB.out⟩
end Go.Proofs.Ytpiegllffkjneaa
