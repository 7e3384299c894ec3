/-
  What FnCommuting draws, and its comparison of lists of pairs.
-/
import Derived.Test.YtknjmkapabjolaaDraws
import Derived.Test.YtknjmkapabjolaaDrawSame
import Derived.Test.YtknjmkapabjolaaCellHelp
namespace Go.Proofs.Ytknjmkapabjolaa
open Go.RowKit Plain
attribute [local go_sem] store_new
set_option linter.unusedVariables false
set_option linter.unusedSimpArgs false

set_option maxHeartbeats 1000000 in
theorem drawDoCommute_any (a : Option Addr) (len cap : Nat) (w : World) (hl : len ≤ 65536) (hr : CodeRow w a len w.heap.size) :
    Calls Try.prog 49 #[.slice a len cap] w fun e w' => ∃ (f : Nat → Int) (d k : Int), e = .returned (.tuple #[.agg (mk 16 f), .int .i64 d, .int .i64 k]) ∧ Below w.heap.size w w' := by
  have z16 := zero16
  have K2 := (Blk.new w 16 (fun _ => 0) 29).alloc (.cells #[.slice a len cap, .int .i64 0, .int .u64 0] 108)
  have hr1 := hr.later ((Below.refl _ w).alloc (Nat.le_refl _) (.cells (mk 16 fun _ => 0) 29))
  have HC := Lib.hid (Cur.new (w.alloc (.cells (mk 16 fun _ => 0) 29)) a len cap hl hr1)
  have hs : (w.alloc (.cells (mk 16 fun _ => 0) 29)).heap.size = w.heap.size + 1 := by simp
  rw [hs] at HC
  clear hr hr1
  go_enter Try.func49, Try.ntmps49
  go_wp2_with fail
  refine (formed3_any _ (w.heap.size + 1) 0 HC.out (by omega)).mono ?_
  rintro e w2 ⟨f, rfl, hc2, ht2⟩
  have K2 := K2.turned ht2 (by omega)
  have HC := Lib.hid hc2
  have HT := Lib.hid ht2
  clear hc2 ht2
  go_wp2_with fail
  refine (side_any _ (w.heap.size + 1) _ HC.out (by omega)).mono ?_
  rintro e w3 ⟨d, rfl, hc2, ht2⟩
  have K2 := K2.turned ht2 (by omega)
  have HC := Lib.hid hc2
  have HT := Lib.hid (HT.out.trans ht2)
  clear hc2 ht2
  go_wp2_with fail
  refine (side_any _ (w.heap.size + 1) _ HC.out (by omega)).mono ?_
  rintro e w4 ⟨k, rfl, hc2, ht2⟩
  have K2 := K2.turned ht2 (by omega)
  have HT := Lib.hid (HT.out.trans ht2)
  clear hc2 ht2 HC
  go_wp2_with ((with_reducible show wpList _ _ _ (Oper.mk _ (Op.store 29 _ _) _ _ _ _ :: _) _ _); refine storeB (K2) rfl rfl rfl rfl ?_)
  try simp only [Exit.inBlock, Exit.then]
  exact retcttB (K2.row 16 _) rfl rfl rfl ⟨f, d, k, rfl, below_setRow (below_two rfl HT.out) (Nat.le_refl _) _⟩
set_option maxHeartbeats 400000 in
theorem drawPairs_any (a : Option Addr) (len cap : Nat) (w : World) (hl : len ≤ 65536) (hr : CodeRow w a len w.heap.size) :
    Calls Try.prog 52 #[.slice a len cap] w fun e w' => ∃ f : Nat → Int, e = .returned (.agg (mk 16 f)) ∧ Below w.heap.size w w' := by
  have z16 := zero16
  have K2 := Blk.new w 16 (fun _ => 0) 29
  have HB := Lib.hid ((Below.refl w.heap.size w).alloc (Nat.le_refl _) (.cells (mk 16 fun _ => 0) 29))
  have hr1 := Lib.hid (hr.later ((Below.refl _ w).alloc (Nat.le_refl _) (.cells (mk 16 fun _ => 0) 29)))
  clear hr
  go_enter Try.func52, Try.ntmps52
  go_wp2_with fail
  refine (drawFirstForm_any a len cap _ hl hr1.out).mono ?_
  rintro e w2 ⟨f, rfl, hb⟩
  have K2 := K2.below hb K2.lt
  have HB : Hid (Below w.heap.size w w2) := HB.out.trans (hb.mono HB.out.size)
  clear hb hr1
  go_wp2_with ((with_reducible show wpList _ _ _ (Oper.mk _ (Op.store 29 _ _) _ _ _ _ :: _) _ _); refine storeB (K2) rfl rfl rfl rfl ?_)
  try simp only [Exit.inBlock, Exit.then]
  exact retcB (K2.row 16 _) rfl rfl rfl ⟨f, rfl, below_setRow HB.out (Nat.le_refl _) _⟩
set_option maxHeartbeats 1000000 in
set_option maxRecDepth 20000 in
theorem vPairs_yes (v u : Value) (n : Nat) (h : Nat → Int) (w : World) (hv : CRow w v n h) (hu : CRow w u n h) (hn : n ≤ 1048576) :
    Calls Try.prog 55 #[v, u] w fun e w' => e = .returned (.bool true) ∧ ∃ k, w' = w.drewN k := by
  obtain ⟨b1, c1, rfl, _, _, hc1⟩ := hv
  obtain ⟨b2, c2, rfl, _, _, hc2⟩ := hu
  have HC1 := Lib.hid hc1
  have HC2 := Lib.hid hc2
  clear hc1 hc2
  go_enter Try.func55, Try.ntmps55
  go_wp2
  go_loopw [5] (fun i wr => ∃ k m : Nat, k ≤ n ∧ i = .int .i64 k ∧ wr = w.drewN m) (fun i _ => n - (intOf i).toNat)
  case atStart => exact ⟨0, 0, Nat.zero_le _, rfl, rfl⟩
  case round =>
    obtain ⟨k, m, hk, rfl, rfl⟩ := hrel
    by_cases hlt : k < n
    · have a0 := HC1.out (k * 2) (by omega)
      have a1 := HC1.out (k * 2 + 1) (by omega)
      have d0 := HC2.out (k * 2) (by omega)
      have d1 := HC2.out (k * 2 + 1) (by omega)
      have hb : (0 : Int) ≤ (k : Int) := by omega
      have hl : (k : Int) < (n : Int) := by omega
      have e2 : (#[.int .i64 (h (k * 2)), .int .i64 (h (k * 2 + 1))] : Array Value) = mk 2 (fun j => h (k * 2 + j)) := rfl
      have iE := eqC2_self (fun j => h (k * 2 + j))
      have iN := neqC2_self (fun j => h (k * 2 + j))
      go_wp2_with fail
      go_quiet (fail)
      all_goals
        clear a0 a1 d0 d1 e2 iE iN
        go_wp2
        go_roundw
        case rel => exact ⟨k + 1, _, by omega, by go_num, rfl⟩
        case measure => simp [intOf]; omega
    · go_wp2
      go_ret
      exact ⟨rfl, _, rfl⟩
end Go.Proofs.Ytknjmkapabjolaa
