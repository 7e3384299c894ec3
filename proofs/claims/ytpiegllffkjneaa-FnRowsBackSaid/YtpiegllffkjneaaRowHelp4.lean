/-
  The contracts of the laws' helper rRows on rows of rows that are the same, and of the reference's draws of RowAt and CountImages.
-/
import Derived.Test.YtpiegllffkjneaaDrawRow
import Derived.Test.YtpiegllffkjneaaRowsKit
namespace Go.Proofs.Ytpiegllffkjneaa
open Go.RowKit Plain
attribute [local go_sem] Oper.semAt_some

theorem neqR_self (f : Nat → Int) (w : World) : (binOp .neq 24 (.agg (mk 4 f)) (.agg (mk 4 f))).run Try.prog w = .ok (.bool false) w := by
  have := neqR f f w
  rw [sameR_iff.2 (fun _ _ => rfl)] at this
  exact this
set_option maxHeartbeats 1000000 in
set_option maxRecDepth 20000 in
theorem rRows_yes (v u : Value) (n : Nat) (h : Nat → Int) (w : World) (hv : KRow 4 w v n h) (hu : KRow 4 w u n h) (hn : n ≤ 1048576) :
    Calls Try.prog 61 #[v, u] w fun e w' => e = .returned (.bool true) ∧ Below w.heap.size w w' := by
  obtain ⟨b1, c1, rfl, _, _, hc1⟩ := hv
  obtain ⟨b2, c2, rfl, _, _, hc2⟩ := hu
  have HC1 := Lib.hid hc1
  have HC2 := Lib.hid hc2
  clear hc1 hc2
  go_enter Try.func61, Try.ntmps61
  go_wp2
  go_loopw [5] (fun i wr => ∃ k m : Nat, k ≤ n ∧ i = .int .i64 k ∧ wr = w.drewN m) (fun i _ => n - (intOf i).toNat)
  case atStart => exact ⟨0, 0, Nat.zero_le _, rfl, rfl⟩
  case round =>
    obtain ⟨k, m, hk, rfl, rfl⟩ := hrel
    by_cases hlt : k < n
    · have a0 := HC1.out (k * 4) (by omega)
      have a1 := HC1.out (k * 4 + 1) (by omega)
      have a2 := HC1.out (k * 4 + 2) (by omega)
      have a3 := HC1.out (k * 4 + 3) (by omega)
      have d0 := HC2.out (k * 4) (by omega)
      have d1 := HC2.out (k * 4 + 1) (by omega)
      have d2 := HC2.out (k * 4 + 2) (by omega)
      have d3 := HC2.out (k * 4 + 3) (by omega)
      have hb : (0 : Int) ≤ (k : Int) := by omega
      have hl : (k : Int) < (n : Int) := by omega
      have e2 : (#[.int .i64 (h (k * 4)), .int .i64 (h (k * 4 + 1)), .int .i64 (h (k * 4 + 2)), .int .i64 (h (k * 4 + 3))] : Array Value) = mk 4 (fun j => h (k * 4 + j)) := rfl
      have iN := neqR_self (fun j => h (k * 4 + j))
      go_wp2_with fail
      go_quiet (fail)
      all_goals
        clear a0 a1 a2 a3 d0 d1 d2 d3 e2 iN
        go_wp2
        go_roundw
        case rel => exact ⟨k + 1, _, by omega, by go_num, rfl⟩
        case measure => simp [intOf]; omega
    · go_wp2
      go_ret
      exact ⟨rfl, below_drewN (Below.refl _ _) _⟩

set_option maxHeartbeats 1000000 in
theorem drawCountIm_any (a : Option Addr) (len cap : Nat) (w : World) (hl : len ≤ 65536) (hr : CodeRow w a len w.heap.size) :
    Calls Try.prog 73 #[.slice a len cap] w fun e w' => ∃ z : Int, e = .returned (.int .i64 z) ∧ Below w.heap.size w w' := by
  have HC := Lib.hid (Cur.new w a len cap hl hr)
  have HB : Hid (Below w.heap.size w (w.alloc (.cells #[.slice a len cap, .int .i64 0, .int .u64 0] 97))) := (Below.refl _ w).alloc (Nat.le_refl _) _
  have hs : (w.alloc (.cells #[.slice a len cap, .int .i64 0, .int .u64 0] 97)).heap.size = w.heap.size + 1 := by simp
  clear hr
  go_enter Try.func73, Try.ntmps73
  go_wp2_with fail
  refine (among_any _ w.heap.size 0 (w.heap.size + 1) 8 8 (fun _ => True) (HC.out.alloc _) (by omega) (by omega) (by omega) (by omega) ?_).mono ?_
  · intro j hj
    rw [← hs]
    refine alloc_all _ _ _ (fun v => ∃ t, v = .int .i64 t ∧ True) ?_ j hj
    intro v hv
    simp at hv
    rcases hv with rfl | rfl | rfl | rfl | rfl | rfl | rfl | rfl <;> exact ⟨_, rfl, trivial⟩
  rintro e w3 ⟨t, _, rfl, _, ht3⟩
  have HT := Lib.hid ht3
  clear ht3
  go_wp2_with fail
  go_ret
  exact ⟨t, rfl, (HB.out.alloc HB.out.size _).trans (HT.out.below (by simp; omega) (Nat.le_refl _))⟩
set_option maxHeartbeats 1000000 in
theorem drawRowAt_any (a : Option Addr) (len cap : Nat) (w : World) (hl : len ≤ 65536) (hr : CodeRow w a len w.heap.size) :
    Calls Try.prog 70 #[.slice a len cap] w fun e w' => ∃ z : Int, e = .returned (.int .i64 z) ∧ Below w.heap.size w w' := by
  have HC := Lib.hid (Cur.new w a len cap hl hr)
  have HB : Hid (Below w.heap.size w (w.alloc (.cells #[.slice a len cap, .int .i64 0, .int .u64 0] 97))) := (Below.refl _ w).alloc (Nat.le_refl _) _
  have hs : (w.alloc (.cells #[.slice a len cap, .int .i64 0, .int .u64 0] 97)).heap.size = w.heap.size + 1 := by simp
  clear hr
  go_enter Try.func70, Try.ntmps70
  go_wp2_with fail
  refine (among_any _ w.heap.size 0 (w.heap.size + 1) 10 10 (fun _ => True) (HC.out.alloc _) (by omega) (by omega) (by omega) (by omega) ?_).mono ?_
  · intro j hj
    rw [← hs]
    refine alloc_all _ _ _ (fun v => ∃ t, v = .int .i64 t ∧ True) ?_ j hj
    intro v hv
    simp at hv
    rcases hv with rfl | rfl | rfl | rfl | rfl | rfl | rfl | rfl | rfl | rfl <;> exact ⟨_, rfl, trivial⟩
  rintro e w3 ⟨t, _, rfl, hc3, ht3⟩
  have HC := Lib.hid hc3
  have HB : Hid (Below w.heap.size w w3) := (HB.out.alloc HB.out.size _).trans (ht3.below (by simp; omega) (Nat.le_refl _))
  clear ht3 hc3 hs
  go_wp2_with fail
  refine (pick_any _ w.heap.size _ 9 HC.out (by omega) (by omega) (by omega)).mono ?_
  rintro e w4 ⟨k, hk, rfl, _, ht4⟩
  have HB : Hid (Below w.heap.size w w4) := HB.out.trans (ht4.below HB.out.size (Nat.le_refl _))
  clear ht4
  generalize hz : IntKind.i64.wrap (t + (k : Int)) = z at *
  go_wp2_with fail
  go_ret
  exact ⟨_, rfl, HB.out⟩
end Go.Proofs.Ytpiegllffkjneaa
