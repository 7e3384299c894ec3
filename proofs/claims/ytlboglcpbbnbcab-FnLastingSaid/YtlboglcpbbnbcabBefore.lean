/-
  The contract of l2Before: whether a board comes before another one.
-/
import Derived.Test.YtlboglcpbbnbcabLess
import Derived.Test.YtlboglcpbbnbcabBaseA
import Derived.Test.YtlboglcpbbnbcabPlainA
import Derived.Deep.QuietTactic
import Derived.BigQuiet
import Derived.Deep.RegionHeld3
namespace Go.Proofs.Ytlboglcpbbnbcab
open Go.RowKit Plain
attribute [local go_sem] store_new

set_option maxHeartbeats 1000000 in
set_option maxRecDepth 20000 in
theorem l2Before_any (f g : Nat → Int) (w : World) :
    Calls Try.prog 172 #[.agg (mk 16 f), .agg (mk 16 g)] w fun e w' => e = .returned (.bool (lessB f g)) ∧ Below w.heap.size w w' := by
  have K1 := (Blk.new w 16 f 29).alloc (.cells (mk 16 g) 29)
  have K2 := Blk.new (w.alloc (.cells (mk 16 f) 29)) 16 g 29
  have HB := Lib.hid (((Below.refl w.heap.size w).alloc (Nat.le_refl _) (.cells (mk 16 f) 29)).alloc (by simp) (.cells (mk 16 g) 29))
  simp only [World.size_alloc] at K2
  go_enter Try.func172, Try.ntmps172
  go_wp2_with fail
  generalize (w.alloc (.cells (mk 16 f) 29)).alloc (.cells (mk 16 g) 29) = w1 at *
  go_loopg [5] 4 (fun n s5 wr => ∃ r : Nat, r + n = 4 ∧ s5 = .int .i64 r ∧ (∀ i, i < r * 4 → f i = g i) ∧ Blk wr w.heap.size 16 f 29 ∧ Blk wr (w.heap.size + 1) 16 g 29 ∧ Hid (Below w.heap.size w wr))
  case atStart => exact ⟨0, by omega, rfl, fun i hi => by omega, K1, K2, HB⟩
  case round =>
    obtain ⟨r, hrg, rfl, he, k1, k2, hb⟩ := hrel
    have HE := Lib.hid he
    clear he
    cases gk with
    | zero =>
      have hr : ¬ ((r : Int) < 4) := by omega
      obtain rfl : r = 4 := by omega
      have HL := Lib.hid (lessB_none HE.out)
      clear hrg hr
      go_wp2_with fail
      go_ret
      exact ⟨by rw [HL.out]; rfl, hb.out⟩
    | succ n =>
      have hr4 : (r : Int) < 4 := by omega
      go_wp2_with fail
      go_loopg [6] 4 (fun m s6 wx => ∃ c : Nat, c + m = 4 ∧ s6 = .int .i64 c ∧ (∀ i, i < r * 4 + c → f i = g i) ∧ Blk wx w.heap.size 16 f 29 ∧ Blk wx (w.heap.size + 1) 16 g 29 ∧ Hid (Below w.heap.size w wx))
      case atStart => exact ⟨0, by omega, rfl, HE.out, k1, k2, hb⟩
      case round =>
        obtain ⟨c, hch, rfl, he, k1, k2, hb⟩ := hrel
        have HE := Lib.hid he
        clear he
        cases gk with
        | zero =>
          have hc : ¬ ((c : Int) < 4) := by omega
          go_wp2_with fail
          go_roundg n
          case rel => exact ⟨r + 1, by omega, by go_num, fun i hi => HE.out i (by omega), k1, k2, hb⟩
          case measure => omega
        | succ m =>
          have hc : (c : Int) < 4 := by omega
          have hr0 : (0 : Int) ≤ (r : Int) := by omega
          have hc0 : (0 : Int) ≤ (c : Int) := by omega
          have c1 := k1.cell (i := r * 4 + c) (by omega)
          have c2 := k2.cell (i := r * 4 + c) (by omega)
          by_cases hq : f (r * 4 + c) = g (r * 4 + c)
          · have HQ := Lib.hid hq
            rw [← hq] at c2
            clear hq
            generalize f (r * 4 + c) = x at c1 c2
            go_wp2_with fail
            go_quiet (fail)
            go_wp2_with fail
            go_roundg m
            case rel => exact ⟨c + 1, by omega, by go_num, fun i hi => by
              by_cases e : i = r * 4 + c
              · subst e; exact HQ.out
              · exact HE.out i (by omega), k1.drewN _, k2.drewN _, below_drewN hb.out _⟩
            case measure => omega
          · have HL := Lib.hid (lessB_at (by omega) HE.out hq)
            have q1 : (f (r * 4 + c) != g (r * 4 + c)) = true := by simpa using hq
            clear hq
            go_wp2_with fail
            go_quiet (fail)
            go_wp2_with fail
            go_quiet (fail)
            go_wp2_with fail
            go_ret
            exact ⟨by rw [HL.out]; rfl, below_drewN (below_drewN hb.out _) _⟩

end Go.Proofs.Ytlboglcpbbnbcab
