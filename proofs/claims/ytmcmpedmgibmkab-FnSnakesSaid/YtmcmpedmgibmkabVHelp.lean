/-
  The contracts of the laws' helpers vInts, vHas and vBoards, on rows of integers and of boards.
-/
import Derived.Test.YtmcmpedmgibmkabRowHelp
import Derived.Test.YtmcmpedmgibmkabRowsKit
import Derived.Deep.RegionHeld3
namespace Go.Proofs.Ytmcmpedmgibmkab
open Go.RowKit Plain
attribute [local go_sem] Oper.semAt_some
set_option linter.unusedVariables false
set_option linter.unusedSimpArgs false

set_option maxHeartbeats 400000 in
theorem vInts_yes (v u : Value) (n : Nat) (h : Nat → Int) (w : World) (hv : IRow w v n h) (hu : IRow w u n h) (hn : n ≤ 1048576) :
    Calls Try.prog 24 #[v, u] w fun e w' => e = .returned (.bool true) ∧ ∃ k, w' = w.drewN k := by
  obtain ⟨b1, c1, rfl, _, _, hc1⟩ := hv
  obtain ⟨b2, c2, rfl, _, _, hc2⟩ := hu
  have HC1 := Lib.hid hc1
  have HC2 := Lib.hid hc2
  clear hc1 hc2
  go_enter Try.func24, Try.ntmps24
  go_wp2
  go_loopw [5] (fun i wr => ∃ k m : Nat, k ≤ n ∧ i = .int .i64 k ∧ wr = w.drewN m) (fun i _ => n - (intOf i).toNat)
  case atStart => exact ⟨0, 0, Nat.zero_le _, rfl, rfl⟩
  case round =>
    obtain ⟨k, m, hk, rfl, rfl⟩ := hrel
    by_cases hlt : k < n
    · have e1 := HC1.out k hlt
      have e2 := HC2.out k hlt
      generalize h k = t at *
      have hb : (0 : Int) ≤ (k : Int) := by omega
      have hl : (k : Int) < (n : Int) := by omega
      go_wp2_with fail
      go_quiet (fail)
      go_wp2
      go_roundw
      case rel => exact ⟨k + 1, _, by omega, by go_num, rfl⟩
      case measure => simp [intOf]; omega
    · go_wp2
      go_ret
      exact ⟨rfl, _, rfl⟩
set_option maxHeartbeats 400000 in
theorem vHas_any (v : Value) (n : Nat) (h : Nat → Int) (x : Int) (w : World) (hv : IRow w v n h) (hn : n ≤ 1048576) :
    Calls Try.prog 26 #[v, .int .i64 x] w fun e w' => e = .returned (.bool (hasI h n x)) ∧ w = w' := by
  obtain ⟨b1, c1, rfl, _, _, hc1⟩ := hv
  have HC1 := Lib.hid hc1
  clear hc1
  go_enter Try.func26, Try.ntmps26
  go_wp2
  go_loopg [5] n (fun g s5 wr => ∃ k : Nat, k + g = n ∧ s5 = .int .i64 k ∧ (∀ j, j < k → h j ≠ x) ∧ w = wr)
  case atStart => exact ⟨0, by omega, rfl, fun j hj => by omega, rfl⟩
  case round =>
    obtain ⟨k, hkg, rfl, hn0, rfl⟩ := hrel
    have HN := Lib.hid hn0
    clear hn0
    cases gk with
    | zero =>
      have hk : ¬ ((k : Int) < (n : Int)) := by omega
      obtain rfl : k = n := by omega
      clear hkg hk
      go_wp2_with fail
      go_ret
      exact ⟨by rw [hasI_no HN.out]; rfl, rfl⟩
    | succ g =>
      have hk : (k : Int) < (n : Int) := by omega
      have hkn : k < n := by omega
      have hb : (0 : Int) ≤ (k : Int) := by omega
      have e1 := HC1.out k hkn
      by_cases hq : h k = x
      · have q1 : (h k == x) = true := by simpa using hq
        have HY := Lib.hid (hasI_yes hkn hq)
        clear hq
        generalize h k = t at *
        go_wp2_with fail
        go_ret
        exact ⟨by rw [HY.out]; rfl, rfl⟩
      · have q1 : (h k == x) = false := by simpa using hq
        have HQ := Lib.hid hq
        clear hq
        generalize ht : h k = t at *
        have HT := Lib.hid ht
        clear ht
        go_wp2_with fail
        go_roundg g
        case rel => exact ⟨k + 1, by omega, by go_num, fun j hj => by
          by_cases e : j = k
          · subst e; rw [HT.out]; exact HQ.out
          · exact HN.out j (by omega), rfl⟩
        case measure => omega
theorem eqlB (f g : Nat → Int) (w : World) : (binOp .eql 35 (.agg (mk 16 f)) (.agg (mk 16 g))).run Try.prog w = .ok (.bool (sameB f g)) w := by
  rw [run_eql_struct, eqB]; rfl
theorem execNB {o : Oper} {ev : Operand → Value} {w : World} {f g : Nat → Int} {x y : Operand} (ho : o.op = .binOp .neq 35 x y 35) (hx : ev x = .agg (mk 16 f)) (hy : ev y = .agg (mk 16 g)) :
    (execOp ev o).run Try.prog w = .ok (.value (.bool (!sameB f g))) w := by
  unfold execOp
  simp [ho, hx, hy, eqGuard, neqB]
theorem execEB {o : Oper} {ev : Operand → Value} {w : World} {f g : Nat → Int} {x y : Operand} (ho : o.op = .binOp .eql 35 x y 35) (hx : ev x = .agg (mk 16 f)) (hy : ev y = .agg (mk 16 g)) :
    (execOp ev o).run Try.prog w = .ok (.value (.bool (sameB f g))) w := by
  unfold execOp
  simp [ho, hx, hy, eqGuard, eqlB]
theorem neqB_self (f : Nat → Int) (w : World) : (binOp .neq 35 (.agg (mk 16 f)) (.agg (mk 16 f))).run Try.prog w = .ok (.bool false) w := by
  have := neqB f f w
  rw [sameB_iff.2 (fun _ _ => rfl)] at this
  exact this
end Go.Proofs.Ytmcmpedmgibmkab
