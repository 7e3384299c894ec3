/-
  What FnKept draws: DrawKeepChance, DrawFirstWell; and its comparison vLess.
-/
import Derived.Test.YtblcojacmjbjcabDrawTight
import Derived.Test.YtblcojacmjbjcabTellA
namespace Go.Proofs.Ytblcojacmjbjcab
open Go.RowKit Plain
attribute [local go_sem] store_new
set_option linter.unusedSimpArgs false
set_option linter.unusedVariables false
set_option maxHeartbeats 400000 in
theorem vLess_any (p q : Fc) (w : World) (h1 : p.1 * q.2 ≤ 4611686018427387904) (h2 : q.1 * p.2 ≤ 4611686018427387904) :
    Calls Try.prog 78 #[.agg (mk 2 (fcF p)), .agg (mk 2 (fcF q))] w fun e w' => e = .returned (.bool (ltF p q)) ∧ Below w.heap.size w w' := by
  have z2 := zero2
  have K1 := ((Blk.new w 2 (fcF p) 42).alloc (.cells (mk 2 (fcF q)) 42))
  have K2 := (Blk.new (w.alloc (.cells (mk 2 (fcF p)) 42)) 2 (fcF q) 42)
  have HB := Lib.hid (((Below.refl w.heap.size w).alloc (Nat.le_refl _) (.cells (mk 2 (fcF p)) 42)).alloc (by simp) (.cells (mk 2 (fcF q)) 42))
  simp only [World.size_alloc] at K1 K2
  have c10 := K1.cell (i := 0) (by omega)
  have c11 := K1.cell (i := 1) (by omega)
  have c20 := K2.cell (i := 0) (by omega)
  have c21 := K2.cell (i := 1) (by omega)
  simp only [fcF0, fcF1] at c10 c11 c20 c21
  have e1 : (p.1 : Int) * (q.2 : Int) = ((p.1 * q.2 : Nat) : Int) := (Int.natCast_mul _ _).symm
  have e2 : (q.1 : Int) * (p.2 : Int) = ((q.1 * p.2 : Nat) : Int) := (Int.natCast_mul _ _).symm
  have HL : Hid (decide (p.1 * q.2 < q.1 * p.2) = ltF p q) := by show _ = _; rfl
  generalize hX : p.1 * q.2 = X at *
  generalize hY : q.1 * p.2 = Y at *
  generalize ltF p q = O at *
  clear hX hY
  go_enter Try.func78, Try.ntmps78
  go_wp2_with fail
  go_ret
  exact ⟨by rw [← HL.out]; rfl, HB.out⟩
set_option maxHeartbeats 2000000 in
theorem drawKeep_any (a : Option Addr) (len cap : Nat) (w : World) (hl : len ≤ 65536) (hr : CodeRow w a len w.heap.size) :
    Calls Try.prog 91 #[.slice a len cap] w fun e w' => ∃ (f : Nat → Int) (n : Int), e = .returned (.tuple #[.agg (mk 16 f), .int .i64 n]) ∧ Below w.heap.size w w' := by
  have z16 := zero16
  have K2 := (Blk.new w 16 (fun _ => 0) 47).alloc (.cells #[.slice a len cap, .int .i64 0, .int .u64 0] 114)
  have hr1 := hr.later ((Below.refl _ w).alloc (Nat.le_refl _) (.cells (mk 16 fun _ => 0) 47))
  have HC := Lib.hid (Cur.new (w.alloc (.cells (mk 16 fun _ => 0) 47)) a len cap hl hr1)
  have hs : (w.alloc (.cells (mk 16 fun _ => 0) 47)).heap.size = w.heap.size + 1 := by simp
  rw [hs] at HC
  clear hr hr1
  have HT := Lib.hid (Turned.refl (w.heap.size + 1) ((w.alloc (.cells (mk 16 fun _ => 0) 47)).alloc (.cells #[.slice a len cap, .int .i64 0, .int .u64 0] 114)))
  go_enter Try.func91, Try.ntmps91
  go_wp2_with fail
  refine (tight5_any _ (w.heap.size + 1) 0 HC.out (by omega)).mono ?_
  rintro e w2 ⟨f, rfl, hc2, ht2⟩
  have hlt2 := hc2.lt
  have K2 := K2.turned ht2 (by omega)
  have HT := Lib.hid (HT.out.trans ht2)
  have HC := Lib.hid hc2
  clear hc2 ht2
  go_wp2_with fail
  generalize hA : w2.alloc _ = w3
  have K2 : Blk w3 w.heap.size 16 (fun _ => 0) 47 := by rw [← hA]; exact K2.alloc _
  have HC : Hid (Cur w3 (w.heap.size + 1) (0 + 300)) := by rw [← hA]; exact HC.out.alloc _
  have HT : Hid (Turned (w.heap.size + 1) ((w.alloc (.cells (mk 16 fun _ => 0) 47)).alloc (.cells #[.slice a len cap, .int .i64 0, .int .u64 0] 114)) w3) := by rw [← hA]; exact HT.out.alloc _
  have hcell : ∀ j, j < 7 → ∃ v, w3.cell? ⟨w2.heap.size, j, none⟩ = some v ∧ ∃ t, v = .int .i64 t ∧ True := by
    intro j hj
    rw [← hA]
    refine alloc_all w2 _ _ (fun v => ∃ t, v = .int .i64 t ∧ True) ?_ j hj
    intro v hv
    simp at hv
    rcases hv with rfl | rfl | rfl | rfl | rfl | rfl | rfl <;> exact ⟨_, rfl, trivial⟩
  have HP := Lib.hid hcell
  clear hA hcell
  have HL2 := Lib.hid hlt2
  clear hlt2
  generalize w2.heap.size = b2 at *
  refine (pick_any _ (w.heap.size + 1) _ 24 HC.out (by omega) (by omega) (by omega)).mono ?_
  rintro e w4 ⟨k, hk, rfl, hc2, ht2⟩
  have K2 := K2.turned ht2 (by omega)
  have HC := Lib.hid hc2
  have HT := Lib.hid (HT.out.trans ht2)
  have HP : Hid (∀ j, j < 7 → ∃ v, w4.cell? ⟨b2, j, none⟩ = some v ∧ ∃ t, v = .int .i64 t ∧ True) := fun j hj => by
    obtain ⟨v, h1, h2⟩ := HP.out j hj
    exact ⟨v, ht2.cell h1 (by have := HL2.out; dsimp only; omega), h2⟩
  clear hc2 ht2
  have hq : (k : Int).tdiv 8 = (k : Int) / 8 := Int.tdiv_eq_ediv_of_nonneg (by omega)
  obtain ⟨q, hqq, hq3⟩ : ∃ q : Nat, (k : Int) / 8 = (q : Int) ∧ (q = 0 ∨ q = 1 ∨ q = 2) := ⟨k / 8, by omega, by omega⟩
  rw [hqq] at hq
  clear hqq hk
  rcases hq3 with rfl | rfl | rfl
  · go_wp2_with fail
    refine (among_any _ (w.heap.size + 1) _ b2 4 7 (fun _ => True) HC.out (by omega) (by omega) (by omega) (by have := HL2.out; omega) (fun j hj => HP.out j (by omega))).mono ?_
    rintro e w5 ⟨t, _, rfl, hc2, ht2⟩
    have K2 := K2.turned ht2 (by omega)
    have HT := Lib.hid (HT.out.trans ht2)
    clear hc2 ht2
    go_wp2_with ((with_reducible show wpList _ _ _ (Oper.mk _ (Op.store 47 _ _) _ _ _ _ :: _) _ _); refine storeB (K2) rfl rfl rfl rfl ?_)
    try simp only [Exit.inBlock, Exit.then]
    exact retctB (K2.row 16 _) rfl rfl rfl ⟨f, t, rfl, below_setRow (below_two rfl HT.out) (Nat.le_refl _) _⟩
  · go_wp2_with fail
    refine (among_any _ (w.heap.size + 1) _ b2 5 7 (fun _ => True) HC.out (by omega) (by omega) (by omega) (by have := HL2.out; omega) (fun j hj => HP.out j (by omega))).mono ?_
    rintro e w5 ⟨t, _, rfl, hc2, ht2⟩
    have K2 := K2.turned ht2 (by omega)
    have HT := Lib.hid (HT.out.trans ht2)
    clear hc2 ht2
    go_wp2_with ((with_reducible show wpList _ _ _ (Oper.mk _ (Op.store 47 _ _) _ _ _ _ :: _) _ _); refine storeB (K2) rfl rfl rfl rfl ?_)
    try simp only [Exit.inBlock, Exit.then]
    exact retctB (K2.row 16 _) rfl rfl rfl ⟨f, t, rfl, below_setRow (below_two rfl HT.out) (Nat.le_refl _) _⟩
  · go_wp2_with fail
    refine (among_any _ (w.heap.size + 1) _ b2 6 7 (fun _ => True) HC.out (by omega) (by omega) (by omega) (by have := HL2.out; omega) (fun j hj => HP.out j (by omega))).mono ?_
    rintro e w5 ⟨t, _, rfl, hc2, ht2⟩
    have K2 := K2.turned ht2 (by omega)
    have HT := Lib.hid (HT.out.trans ht2)
    clear hc2 ht2
    go_wp2_with ((with_reducible show wpList _ _ _ (Oper.mk _ (Op.store 47 _ _) _ _ _ _ :: _) _ _); refine storeB (K2) rfl rfl rfl rfl ?_)
    try simp only [Exit.inBlock, Exit.then]
    exact retctB (K2.row 16 _) rfl rfl rfl ⟨f, t, rfl, below_setRow (below_two rfl HT.out) (Nat.le_refl _) _⟩
set_option maxHeartbeats 400000 in
theorem drawWell_any (a : Option Addr) (len cap : Nat) (w : World) (hl : len ≤ 65536) (hr : CodeRow w a len w.heap.size) :
    Calls Try.prog 94 #[.slice a len cap] w fun e w' => ∃ (f : Nat → Int) (n : Int), e = .returned (.tuple #[.agg (mk 16 f), .int .i64 n]) ∧ Below w.heap.size w w' := by
  have z16 := zero16
  have K2 := Blk.new w 16 (fun _ => 0) 47
  have HB := Lib.hid ((Below.refl w.heap.size w).alloc (Nat.le_refl _) (.cells (mk 16 fun _ => 0) 47))
  have HR := Lib.hid (hr.later ((Below.refl _ w).alloc (Nat.le_refl _) (.cells (mk 16 fun _ => 0) 47)))
  clear hr
  go_enter Try.func94, Try.ntmps94
  go_wp2_with fail
  refine (drawKeep_any a len cap _ hl HR.out).mono ?_
  rintro e w2 ⟨f, k, rfl, hb⟩
  have K2 := K2.below hb (by simp)
  have HB : Hid (Below w.heap.size w w2) := HB.out.trans (hb.mono HB.out.size)
  clear hb
  go_wp2_with ((with_reducible show wpList _ _ _ (Oper.mk _ (Op.store 47 _ _) _ _ _ _ :: _) _ _); refine storeB (K2) rfl rfl rfl rfl ?_)
  try simp only [Exit.inBlock, Exit.then]
  exact retctB (K2.row 16 _) rfl rfl rfl ⟨f, k, rfl, below_setRow HB.out (Nat.le_refl _) _⟩
end Go.Proofs.Ytblcojacmjbjcab
