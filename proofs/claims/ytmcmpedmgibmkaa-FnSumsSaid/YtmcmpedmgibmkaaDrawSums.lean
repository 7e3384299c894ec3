/-
  The draws of chapter 7 about sums: a sum, a sum and a number of tiles, a board.
-/
import Derived.Test.YtmcmpedmgibmkaaDrawsA
namespace Go.Proofs.Ytmcmpedmgibmkaa
open Go.RowKit Plain
attribute [local go_sem] store_new
set_option linter.unusedVariables false
set_option linter.unusedSimpArgs false
theorem sum7_any (w : World) (B m : Nat) (hc : Cur w B m) (hm : m ≤ 999999000) :
    Calls Try.prog 72 #[.pointer (some ⟨B, 0, none⟩)] w fun e w' => ∃ t : Int, e = .returned (.int .i64 t) ∧ Cur w' B (m + 4) ∧ Turned B w w' := by
  have HC := Lib.hid hc
  have hlt := hc.lt
  clear hc
  go_enter Try.func72, Try.ntmps72
  go_wp2_with fail
  refine (one_any _ B m 16 HC.out (by omega) (by omega) (by omega)).mono ?_
  rintro e w1 ⟨b, rfl, hc1, ht1⟩
  have HC1 := Lib.hid hc1
  have HT1 := Lib.hid ht1
  have hlt1 := hc1.lt
  clear hc1 ht1 HC
  cases b with
  | true =>
    go_wp2_with fail
    refine (among_any _ B (m + 2) w1.heap.size 6 6 (fun _ => True) (HC1.out.alloc _) (by omega) (by omega) (by omega) (by omega) ?_).mono ?_
    · intro j hj
      refine alloc_all w1 _ _ (fun v => ∃ t, v = .int .i64 t ∧ True) ?_ j hj
      intro v hv
      simp at hv
      rcases hv with rfl | rfl | rfl | rfl | rfl | rfl <;> exact ⟨_, rfl, trivial⟩
    rintro e w2 ⟨t, _, rfl, hc2, ht2⟩
    have HC2 := Lib.hid hc2
    have HT2 := Lib.hid ht2
    clear hc2 ht2
    go_wp2_with fail
    go_ret
    exact ⟨t, rfl, HC2.out, (HT1.out.alloc _).trans HT2.out⟩
  | false =>
    go_wp2_with fail
    refine (among_any _ B (m + 2) w1.heap.size 18 18 (fun _ => True) (HC1.out.alloc _) (by omega) (by omega) (by omega) (by omega) ?_).mono ?_
    · intro j hj
      refine alloc_all w1 _ _ (fun v => ∃ t, v = .int .i64 t ∧ True) ?_ j hj
      intro v hv
      simp at hv
      rcases hv with rfl | rfl | rfl | rfl | rfl | rfl | rfl | rfl | rfl | rfl | rfl | rfl | rfl | rfl | rfl | rfl | rfl | rfl <;> exact ⟨_, rfl, trivial⟩
    rintro e w2 ⟨t, _, rfl, hc2, ht2⟩
    have HC2 := Lib.hid hc2
    have HT2 := Lib.hid ht2
    clear hc2 ht2
    go_wp2_with fail
    go_ret
    exact ⟨t, rfl, HC2.out, (HT1.out.alloc _).trans HT2.out⟩
set_option maxHeartbeats 1000000 in
theorem drawLeast_any (a : Option Addr) (len cap : Nat) (w : World) (hl : len ≤ 65536) (hr : CodeRow w a len w.heap.size) :
    Calls Try.prog 42 #[.slice a len cap] w fun e w' => ∃ x : Int, e = .returned (.int .i64 x) ∧ Below w.heap.size w w' := by
  have HC := Lib.hid (Cur.new w a len cap hl hr)
  clear hr
  go_enter Try.func42, Try.ntmps42
  go_wp2_with fail
  refine (sum7_any _ w.heap.size 0 HC.out (by omega)).mono ?_
  rintro e w2 ⟨x, rfl, hc2, ht2⟩
  have HT := Lib.hid ht2
  clear hc2 ht2 HC
  go_wp2_with fail
  go_ret
  exact ⟨x, rfl, below_one rfl HT.out⟩
set_option maxHeartbeats 1000000 in
theorem drawPoss_any (a : Option Addr) (len cap : Nat) (w : World) (hl : len ≤ 65536) (hr : CodeRow w a len w.heap.size) :
    Calls Try.prog 43 #[.slice a len cap] w fun e w' => ∃ x y : Int, e = .returned (.tuple #[.int .i64 x, .int .i64 y]) ∧ Below w.heap.size w w' := by
  have HC := Lib.hid (Cur.new w a len cap hl hr)
  clear hr
  go_enter Try.func43, Try.ntmps43
  go_wp2_with fail
  refine (sum7_any _ w.heap.size 0 HC.out (by omega)).mono ?_
  rintro e w2 ⟨x, rfl, hc2, ht2⟩
  have hlt2 := hc2.lt
  have HC := Lib.hid hc2
  have HT := Lib.hid ht2
  clear hc2 ht2
  go_wp2_with fail
  generalize hA : w2.alloc _ = w3
  have HC : Hid (Cur w3 w.heap.size 4) := by rw [← hA]; exact HC.out.alloc _
  have HT : Hid (Turned w.heap.size (w.alloc (.cells #[.slice a len cap, .int .i64 0, .int .u64 0] 85)) w3) := by rw [← hA]; exact HT.out.alloc _
  have hcell : ∀ j, j < 10 → ∃ v, w3.cell? ⟨w2.heap.size, j, none⟩ = some v ∧ ∃ t, v = .int .i64 t ∧ True := by
    intro j hj
    rw [← hA]
    refine alloc_all w2 _ _ (fun v => ∃ t, v = .int .i64 t ∧ True) ?_ j hj
    intro v hv
    simp at hv
    rcases hv with rfl | rfl | rfl | rfl | rfl | rfl | rfl | rfl | rfl | rfl <;> exact ⟨_, rfl, trivial⟩
  have HP := Lib.hid hcell
  clear hA hcell
  have HL2 := Lib.hid hlt2
  clear hlt2
  generalize w2.heap.size = b2 at *
  refine (pick_any _ w.heap.size 4 24 HC.out (by omega) (by omega) (by omega)).mono ?_
  rintro e w4 ⟨k, hk, rfl, hc2, ht2⟩
  have HC := Lib.hid hc2
  have HT := Lib.hid (HT.out.trans ht2)
  have HP : Hid (∀ j, j < 10 → ∃ v, w4.cell? ⟨b2, j, none⟩ = some v ∧ ∃ t, v = .int .i64 t ∧ True) := fun j hj => by
    obtain ⟨v, h1, h2⟩ := HP.out j hj
    exact ⟨v, ht2.cell h1 (by have := HL2.out; dsimp only; omega), h2⟩
  clear hc2 ht2
  have hq : (k : Int).tdiv 11 = (k : Int) / 11 := Int.tdiv_eq_ediv_of_nonneg (by omega)
  obtain ⟨q, hqq, hq3⟩ : ∃ q : Nat, (k : Int) / 11 = (q : Int) ∧ (q = 0 ∨ q = 1 ∨ q = 2) := ⟨k / 11, by omega, by omega⟩
  rw [hqq] at hq
  clear hqq hk
  rcases hq3 with rfl | rfl | rfl
  · go_wp2_with fail
    refine (among_any _ w.heap.size _ b2 8 10 (fun _ => True) HC.out (by omega) (by omega) (by omega) (by have := HL2.out; omega) (fun j hj => HP.out j (by omega))).mono ?_
    rintro e w5 ⟨t, _, rfl, hc2, ht2⟩
    have HT := Lib.hid (HT.out.trans ht2)
    clear hc2 ht2
    go_wp2_with fail
    go_ret2
    exact ⟨x, t, rfl, below_one rfl HT.out⟩
  · go_wp2_with fail
    refine (among_any _ w.heap.size _ b2 9 10 (fun _ => True) HC.out (by omega) (by omega) (by omega) (by have := HL2.out; omega) (fun j hj => HP.out j (by omega))).mono ?_
    rintro e w5 ⟨t, _, rfl, hc2, ht2⟩
    have HT := Lib.hid (HT.out.trans ht2)
    clear hc2 ht2
    go_wp2_with fail
    go_ret2
    exact ⟨x, t, rfl, below_one rfl HT.out⟩
  · go_wp2_with fail
    refine (among_any _ w.heap.size _ b2 10 10 (fun _ => True) HC.out (by omega) (by omega) (by omega) (by have := HL2.out; omega) (fun j hj => HP.out j (by omega))).mono ?_
    rintro e w5 ⟨t, _, rfl, hc2, ht2⟩
    have HT := Lib.hid (HT.out.trans ht2)
    clear hc2 ht2
    go_wp2_with fail
    go_ret2
    exact ⟨x, t, rfl, below_one rfl HT.out⟩
set_option maxHeartbeats 1000000 in
theorem drawPot_any (a : Option Addr) (len cap : Nat) (w : World) (hl : len ≤ 65536) (hr : CodeRow w a len w.heap.size) :
    Calls Try.prog 78 #[.slice a len cap] w fun e w' => ∃ f : Nat → Int, e = .returned (.agg (mk 16 f)) ∧ Below w.heap.size w w' := by
  have z16 := zero16
  have K2 := (Blk.new w 16 (fun _ => 0) 28).alloc (.cells #[.slice a len cap, .int .i64 0, .int .u64 0] 85)
  have hr1 := hr.later ((Below.refl _ w).alloc (Nat.le_refl _) (.cells (mk 16 fun _ => 0) 28))
  have HC := Lib.hid (Cur.new (w.alloc (.cells (mk 16 fun _ => 0) 28)) a len cap hl hr1)
  have hs : (w.alloc (.cells (mk 16 fun _ => 0) 28)).heap.size = w.heap.size + 1 := by simp
  rw [hs] at HC
  clear hr hr1
  go_enter Try.func78, Try.ntmps78
  go_wp2_with fail
  refine (board_any _ (w.heap.size + 1) 0 HC.out (by omega)).mono ?_
  rintro e w2 ⟨f, rfl, hc2, ht2⟩
  have K2 := K2.turned ht2 (by omega)
  have HT := Lib.hid ht2
  clear hc2 ht2 HC
  go_wp2_with ((with_reducible show wpList _ _ _ (Oper.mk _ (Op.store 28 _ _) _ _ _ _ :: _) _ _); refine storeB (K2) rfl rfl rfl rfl ?_)
  try simp only [Exit.inBlock, Exit.then]
  exact retcB (K2.row 16 _) rfl rfl rfl ⟨f, rfl, below_setRow (below_two rfl HT.out) (Nat.le_refl _) _⟩
set_option maxHeartbeats 1000000 in
theorem drawMerg_any (a : Option Addr) (len cap : Nat) (w : World) (hl : len ≤ 65536) (hr : CodeRow w a len w.heap.size) :
    Calls Try.prog 44 #[.slice a len cap] w fun e w' => ∃ f : Nat → Int, e = .returned (.agg (mk 16 f)) ∧ Below w.heap.size w w' := by
  have z16 := zero16
  have K2 := Blk.new w 16 (fun _ => 0) 28
  have HB := Lib.hid ((Below.refl w.heap.size w).alloc (Nat.le_refl _) (.cells (mk 16 fun _ => 0) 28))
  have hr1 := hr.later ((Below.refl _ w).alloc (Nat.le_refl _) (.cells (mk 16 fun _ => 0) 28))
  have HC := Lib.hid (drawPot_any a len cap (w.alloc (.cells (mk 16 fun _ => 0) 28)) hl hr1)
  clear hr hr1
  go_enter Try.func44, Try.ntmps44
  go_wp2_with fail
  refine HC.out.mono ?_
  rintro e w2 ⟨f, rfl, hb⟩
  have K2 := K2.below hb K2.lt
  have HB : Hid (Below w.heap.size w w2) := HB.out.trans (hb.mono HB.out.size)
  clear hb HC
  go_wp2_with ((with_reducible show wpList _ _ _ (Oper.mk _ (Op.store 28 _ _) _ _ _ _ :: _) _ _); refine storeB (K2) rfl rfl rfl rfl ?_)
  try simp only [Exit.inBlock, Exit.then]
  exact retcB (K2.row 16 _) rfl rfl rfl ⟨f, rfl, below_setRow HB.out (Nat.le_refl _) _⟩
end Go.Proofs.Ytmcmpedmgibmkaa
