/-
  The contracts of the laws' helpers vInts, vHas and vBoards, on rows of integers and of boards.
-/
import Derived.Test.YtblcojacmjbjcabRowHelp
import Derived.Test.YtblcojacmjbjcabRowsKit
import Derived.Deep.RegionHeld3
namespace Go.Proofs.Ytblcojacmjbjcab
open Go.RowKit Plain
attribute [local go_sem] Oper.semAt_some
set_option linter.unusedVariables false
set_option linter.unusedSimpArgs false

set_option maxHeartbeats 400000 in
theorem vInts_yes (v u : Value) (n : Nat) (h : Nat → Int) (w : World) (hv : IRow w v n h) (hu : IRow w u n h) (hn : n ≤ 1048576) :
    Calls Try.prog 116 #[v, u] w fun e w' => e = .returned (.bool true) ∧ ∃ k, w' = w.drewN k := by
  obtain ⟨b1, c1, rfl, _, _, hc1⟩ := hv
  obtain ⟨b2, c2, rfl, _, _, hc2⟩ := hu
  have HC1 := Lib.hid hc1
  have HC2 := Lib.hid hc2
  clear hc1 hc2
  go_enter Try.func116, Try.ntmps116
  go_wp2
  go_loopw [5] (fun i wr => ∃ k m : Nat, k ≤ n ∧ i = .int .i64 k ∧ wr = w.drewN m) (fun i _ => n - (intOf i).toNat)
  case atStart => exact ⟨0, 0, Nat.zero_le _, rfl, rfl⟩
  case round =>
    obtain ⟨k, m, hk, rfl, rfl⟩ := hrel
    by_cases hlt : k < n
    · have e1 := HC1.out k hlt
      have e2 := HC2.out k hlt
      generalize h k = t at *
      have hb : (0 : Int) ≤ (k : Int) := by omega
      have hl : (k : Int) < (n : Int) := by omega
      go_wp2_with fail
      go_quiet (fail)
      go_wp2
      go_roundw
      case rel => exact ⟨k + 1, _, by omega, by go_num, rfl⟩
      case measure => simp [intOf]; omega
    · go_wp2
      go_ret
      exact ⟨rfl, _, rfl⟩
set_option maxHeartbeats 400000 in
theorem vHas_any (v : Value) (n : Nat) (h : Nat → Int) (x : Int) (w : World) (hv : IRow w v n h) (hn : n ≤ 1048576) :
    Calls Try.prog 97 #[v, .int .i64 x] w fun e w' => e = .returned (.bool (hasI h n x)) ∧ w = w' := by
  obtain ⟨b1, c1, rfl, _, _, hc1⟩ := hv
  have HC1 := Lib.hid hc1
  clear hc1
  go_enter Try.func97, Try.ntmps97
  go_wp2
  go_loopg [5] n (fun g s5 wr => ∃ k : Nat, k + g = n ∧ s5 = .int .i64 k ∧ (∀ j, j < k → h j ≠ x) ∧ w = wr)
  case atStart => exact ⟨0, by omega, rfl, fun j hj => by omega, rfl⟩
  case round =>
    obtain ⟨k, hkg, rfl, hn0, rfl⟩ := hrel
    have HN := Lib.hid hn0
    clear hn0
    cases gk with
    | zero =>
      have hk : ¬ ((k : Int) < (n : Int)) := by omega
      obtain rfl : k = n := by omega
      clear hkg hk
      go_wp2_with fail
      go_ret
      exact ⟨by rw [hasI_no HN.out]; rfl, rfl⟩
    | succ g =>
      have hk : (k : Int) < (n : Int) := by omega
      have hkn : k < n := by omega
      have hb : (0 : Int) ≤ (k : Int) := by omega
      have e1 := HC1.out k hkn
      by_cases hq : h k = x
      · have q1 : (h k == x) = true := by simpa using hq
        have HY := Lib.hid (hasI_yes hkn hq)
        clear hq
        generalize h k = t at *
        go_wp2_with fail
        go_ret
        exact ⟨by rw [HY.out]; rfl, rfl⟩
      · have q1 : (h k == x) = false := by simpa using hq
        have HQ := Lib.hid hq
        clear hq
        generalize ht : h k = t at *
        have HT := Lib.hid ht
        clear ht
        go_wp2_with fail
        go_roundg g
        case rel => exact ⟨k + 1, by omega, by go_num, fun j hj => by
          by_cases e : j = k
          · subst e; rw [HT.out]; exact HQ.out
          · exact HN.out j (by omega), rfl⟩
        case measure => omega
theorem eqlB (f g : Nat → Int) (w : World) : (binOp .eql 47 (.agg (mk 16 f)) (.agg (mk 16 g))).run Try.prog w = .ok (.bool (sameB f g)) w := by
  rw [run_eql_struct, eqB]; rfl
theorem execNB {o : Oper} {ev : Operand → Value} {w : World} {f g : Nat → Int} {x y : Operand} (ho : o.op = .binOp .neq 47 x y 47) (hx : ev x = .agg (mk 16 f)) (hy : ev y = .agg (mk 16 g)) :
    (execOp ev o).run Try.prog w = .ok (.value (.bool (!sameB f g))) w := by
  unfold execOp
  simp [ho, hx, hy, eqGuard, neqB]
theorem execEB {o : Oper} {ev : Operand → Value} {w : World} {f g : Nat → Int} {x y : Operand} (ho : o.op = .binOp .eql 47 x y 47) (hx : ev x = .agg (mk 16 f)) (hy : ev y = .agg (mk 16 g)) :
    (execOp ev o).run Try.prog w = .ok (.value (.bool (sameB f g))) w := by
  unfold execOp
  simp [ho, hx, hy, eqGuard, eqlB]
theorem neqB_self (f : Nat → Int) (w : World) : (binOp .neq 47 (.agg (mk 16 f)) (.agg (mk 16 f))).run Try.prog w = .ok (.bool false) w := by
  have := neqB f f w
  rw [sameB_iff.2 (fun _ _ => rfl)] at this
  exact this
set_option maxHeartbeats 1000000 in
set_option maxRecDepth 20000 in
theorem vBoards_yes (v u : Value) (n : Nat) (h : Nat → Int) (w : World) (hv : KRow 16 w v n h) (hu : KRow 16 w u n h) (hn : n ≤ 1048576) :
    Calls Try.prog 115 #[v, u] w fun e w' => e = .returned (.bool true) ∧ Below w.heap.size w w' := by
  obtain ⟨b1, c1, rfl, _, k1⟩ := hv
  obtain ⟨b2, c2, rfl, _, k2⟩ := hu
  have HB := Lib.hid (Below.refl w.heap.size w)
  go_enter Try.func115, Try.ntmps115
  go_wp2
  go_loopg [5] n (fun gk s5 wr => ∃ k : Nat, k + gk = n ∧ s5 = .int .i64 k ∧ CAt wr b1 (n * 16) h ∧ CAt wr b2 (n * 16) h ∧ Hid (Below w.heap.size w wr))
  case atStart => exact ⟨0, by omega, rfl, k1, k2, HB⟩
  case round =>
    clear k1 k2 HB
    obtain ⟨k, hkg, rfl, k1, k2, HB⟩ := hrel
    cases gk with
    | zero =>
      have hk : ¬ ((k : Int) < (n : Int)) := by omega
      go_wp2_with fail
      go_ret
      exact ⟨rfl, HB.out⟩
    | succ gk2 =>
      have hb : (0 : Int) ≤ (k : Int) := by omega
      have hl : (k : Int) < (n : Int) := by omega
      go_wp2_with fail
      refine wp_region_held_drew (S := fun W => CAt W b1 (n * 16) h ∧ CAt W b2 (n * 16) h) (by kernel_rfl) (⟨CAt.drew k1, CAt.drew k2⟩) (fun hHeld => ?_)
      refine wpAnyH_take (i := 0) (oi := { dst := some 17, op := _, type := _, pos := _, after := _, guard := _ }) (v := .slice (some ⟨b1, 0, none⟩) n c1) rfl (by kernel_rfl) (by kernel_rfl) (by kernel_rfl) (fun _ _ _ h => h) (Or.inl ⟨by rfl, by intro w hSw; clear hSw; go_simp; (try with_reducible rfl)⟩) (by assumption) ?_
      try simp only [Act.put, List.setIfInBounds_toArray, List.set_cons_zero, List.set_cons_succ]
      refine wpAnyH_take (i := 1) (oi := { dst := some 18, op := _, type := _, pos := _, after := _, guard := _ }) (v := .int .i64 (k : Int)) rfl (by kernel_rfl) (by kernel_rfl) (by kernel_rfl) (fun _ _ _ h => h) (Or.inl ⟨by rfl, by intro w hSw; clear hSw; go_simp; (try with_reducible rfl)⟩) (by assumption) ?_
      try simp only [Act.put, List.setIfInBounds_toArray, List.set_cons_zero, List.set_cons_succ]
      refine wpAnyH_take (i := 2) (oi := { dst := some 19, op := _, type := _, pos := _, after := _, guard := _ }) (v := .pointer (some ⟨b1, k * 16, none⟩)) rfl (by kernel_rfl) (by kernel_rfl) (by kernel_rfl) (fun _ _ _ h => h) (Or.inl ⟨by rfl, by intro w hSw; clear hSw; go_simp; (try with_reducible rfl)⟩) (by assumption) ?_
      try simp only [Act.put, List.setIfInBounds_toArray, List.set_cons_zero, List.set_cons_succ]
      refine wpAnyH_take (i := 3) (oi := { dst := some 20, op := _, type := _, pos := _, after := _, guard := _ }) (v := .agg (mk 16 fun j => h (k * 16 + j))) rfl (by kernel_rfl) (by kernel_rfl) (by kernel_rfl) (fun _ _ _ h => h) (Or.inl ⟨by rfl, fun _ q => execAB q.1 (by omega) rfl rfl⟩) (by assumption) ?_
      try simp only [Act.put, List.setIfInBounds_toArray, List.set_cons_zero, List.set_cons_succ]
      refine wpAnyH_take (i := 4) (oi := { dst := some 21, op := _, type := _, pos := _, after := _, guard := _ }) (v := .slice (some ⟨b2, 0, none⟩) n c2) rfl (by kernel_rfl) (by kernel_rfl) (by kernel_rfl) (fun _ _ _ h => h) (Or.inl ⟨by rfl, by intro w hSw; clear hSw; go_simp; (try with_reducible rfl)⟩) (by assumption) ?_
      try simp only [Act.put, List.setIfInBounds_toArray, List.set_cons_zero, List.set_cons_succ]
      refine wpAnyH_take (i := 5) (oi := { dst := some 22, op := _, type := _, pos := _, after := _, guard := _ }) (v := .int .i64 (k : Int)) rfl (by kernel_rfl) (by kernel_rfl) (by kernel_rfl) (fun _ _ _ h => h) (Or.inl ⟨by rfl, by intro w hSw; clear hSw; go_simp; (try with_reducible rfl)⟩) (by assumption) ?_
      try simp only [Act.put, List.setIfInBounds_toArray, List.set_cons_zero, List.set_cons_succ]
      refine wpAnyH_take (i := 6) (oi := { dst := some 23, op := _, type := _, pos := _, after := _, guard := _ }) (v := .pointer (some ⟨b2, k * 16, none⟩)) rfl (by kernel_rfl) (by kernel_rfl) (by kernel_rfl) (fun _ _ _ h => h) (Or.inl ⟨by rfl, by intro w hSw; clear hSw; go_simp; (try with_reducible rfl)⟩) (by assumption) ?_
      try simp only [Act.put, List.setIfInBounds_toArray, List.set_cons_zero, List.set_cons_succ]
      refine wpAnyH_take (i := 7) (oi := { dst := some 24, op := _, type := _, pos := _, after := _, guard := _ }) (v := .agg (mk 16 fun j => h (k * 16 + j))) rfl (by kernel_rfl) (by kernel_rfl) (by kernel_rfl) (fun _ _ _ h => h) (Or.inl ⟨by rfl, fun _ q => execAB q.2 (by omega) rfl rfl⟩) (by assumption) ?_
      try simp only [Act.put, List.setIfInBounds_toArray, List.set_cons_zero, List.set_cons_succ]
      refine wpAnyH_take (i := 8) (oi := { dst := some 25, op := _, type := _, pos := _, after := _, guard := _ }) (v := .bool false) rfl (by kernel_rfl) (by kernel_rfl) (by kernel_rfl) (fun _ _ _ h => h) (Or.inl ⟨by rfl, fun W _ => (execNB (f := fun j => h (k * 16 + j)) (g := fun j => h (k * 16 + j)) rfl rfl rfl).trans (by rw [sameB_iff.2 (fun _ _ => rfl)]; rfl)⟩) (by assumption) ?_
      try simp only [Act.put, List.setIfInBounds_toArray, List.set_cons_zero, List.set_cons_succ]
      refine wpAnyH_done (by kernel_rfl) ?_ _
      clear hHeld
      replace k1 := k1.drew
      replace k2 := k2.drew
      replace HB : Hid (Below w.heap.size w wr.drew) := HB.out.drew
      generalize wr.drew = x9 at *
      go_wp2_with fail
      go_roundg gk2
      case rel => exact ⟨k + 1, by omega, by go_num, k1, k2, HB⟩
      case measure => omega
end Go.Proofs.Ytblcojacmjbjcab
