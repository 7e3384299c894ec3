/-
  The contracts of the reference's l6With (a board with another row in a line) and of the numbers of a line, for the slides by a rule.
-/
import Derived.Test.YtblcojacmjbjcaaRulePlain
import Derived.Test.YtblcojacmjbjcaaSpecLine
import Derived.Test.YtblcojacmjbjcaaNumbers
import Derived.RegionTactic
import Derived.Deep.RegionWith
namespace Go.Proofs.Ytblcojacmjbjcaa.Plain
def withR (d i : Nat) (x r : Nat → Int) : Nat → Int := fun j => if lineOf d j = i then r (placeOf d j) else x j
/-- The row so far: its first k numbers. -/
def withKR (d i : Nat) (x r : Nat → Int) (k : Nat) : Nat → Int := fun j => if lineOf d j = i ∧ placeOf d j < k then r (placeOf d j) else x j
theorem withKR_zero (d i : Nat) (x r : Nat → Int) (j : Nat) : withKR d i x r 0 j = x j := by unfold withKR; rw [if_neg (by omega)]
theorem withKR_step {d i k : Nat} (x r : Nat → Int) (hi : i < 4) (hk : k < 4) {j : Nat} (hj : j < 16) : upd (withKR d i x r k) (pos d i k) (r k) j = withKR d i x r (k + 1) j := by
  by_cases e : j = pos d i k
  · rw [e, upd_same]; unfold withKR; rw [lineOf_pos hi hk, placeOf_pos hi hk, if_pos (by omega)]
  · rw [upd_other _ _ e]
    have hne : ¬ (lineOf d j = i ∧ placeOf d j = k) := fun q => e (by rw [← pos_of (d := d) hj, q.1, q.2])
    unfold withKR
    by_cases q : lineOf d j = i ∧ placeOf d j < k
    · rw [if_pos q, if_pos (by omega)]
    · rw [if_neg q, if_neg (by omega)]
theorem withKR_all (d i : Nat) (x r : Nat → Int) {j : Nat} (hj : j < 16) : withKR d i x r 4 j = withR d i x r j := by
  have := placeOf_lt (d := d) hj
  unfold withKR withR
  by_cases q : lineOf d j = i
  · rw [if_pos (by omega), if_pos q]
  · rw [if_neg (fun e => q e.1), if_neg q]
end Go.Proofs.Ytblcojacmjbjcaa.Plain
namespace Go.Proofs.Ytblcojacmjbjcaa
open Go.RowKit Plain
attribute [local go_sem] store_new
set_option linter.unusedVariables false
set_option linter.unusedSimpArgs false


theorem sideRW {d : Nat} (hd : d < 4) : d = 0 ∨ d = 1 ∨ d = 2 ∨ d = 3 := by omega
theorem l2LineR_nat (d i : Nat) (w : World) (hd : d < 4) (hi : i < 4) :
    Calls Try.prog 89 #[.int .i64 (d : Int), .int .i64 (i : Int)] w fun e w' => e = .returned (.agg (mk 8 (lineV d i))) ∧ Below w.heap.size w w' := by
  rcases sideRW hd with rfl | rfl | rfl | rfl
  · exact l2Line_0 i w hi
  · exact l2Line_1 i w hi
  · exact l2Line_2 i w hi
  · exact l2Line_3 i w hi
theorem l2NumbersR_nat (f : Nat → Int) (d i : Nat) (w : World) (hd : d < 4) (hi : i < 4) :
    Calls Try.prog 82 #[.agg (mk 16 f), .int .i64 (d : Int), .int .i64 (i : Int)] w fun e w' => e = .returned (.agg (mk 4 (lineF f d i))) ∧ Below w.heap.size w w' := by
  rcases sideRW hd with rfl | rfl | rfl | rfl
  · exact l2Numbers_0 f i w hi
  · exact l2Numbers_1 f i w hi
  · exact l2Numbers_2 f i w hi
  · exact l2Numbers_3 f i w hi
set_option maxHeartbeats 2000000 in
set_option maxRecDepth 20000 in
theorem l6WithR_any (x r : Nat → Int) (d i : Nat) (w : World) (hd : d < 4) (hi : i < 4) :
    Calls Try.prog 80 #[.agg (mk 16 x), .int .i64 (d : Int), .int .i64 (i : Int), .agg (mk 4 r)] w fun e w' => e = .returned (.agg (mk 16 (withR d i x r))) ∧ Below w.heap.size w w' := by
  have z16 := zero16
  have z8 := zero8
  have k1 := ((Blk.new w 16 x 37).alloc (.cells (mk 4 r) 33)).alloc (.cells (mk 16 fun _ => 0) 37)
  have k2 := (Blk.new (w.alloc (.cells (mk 16 x) 37)) 4 r 33).alloc (.cells (mk 16 fun _ => 0) 37)
  have k3 := Blk.new ((w.alloc (.cells (mk 16 x) 37)).alloc (.cells (mk 4 r) 33)) 16 (fun _ => 0) 37
  have HB := Lib.hid ((((Below.refl w.heap.size w).alloc (Nat.le_refl _) (.cells (mk 16 x) 37)).alloc (by simp) (.cells (mk 4 r) 33)).alloc (by simp; omega) (.cells (mk 16 fun _ => 0) 37))
  simp only [World.size_alloc] at k2 k3
  go_enter Try.func80, Try.ntmps80
  go_wp2_with fail
  refine (l2LineR_nat d i _ hd hi).mono ?_
  rintro e w1 ⟨rfl, hb⟩
  have hz : w.heap.size + 1 + 1 < w1.heap.size := Nat.lt_of_lt_of_le k3.lt hb.size
  have k1 := (k1.below hb k1.lt).alloc (.cells (mk 8 (lineV d i)) 103)
  have k2 := (k2.below hb k2.lt).alloc (.cells (mk 8 (lineV d i)) 103)
  have k3 := (k3.below hb k3.lt).alloc (.cells (mk 8 (lineV d i)) 103)
  have k11 := Blk.new w1 8 (lineV d i) 103
  have HB : Hid (Below w.heap.size w w1) := HB.out.trans (hb.mono HB.out.size)
  have HB : Hid (Below w.heap.size w (w1.alloc (.cells (mk 8 (lineV d i)) 103))) := HB.out.alloc HB.out.size _
  clear hb
  go_wp2_with fail
  generalize w1.alloc (.cells (mk 8 (lineV d i)) 103) = w2 at *
  generalize w1.heap.size = b9 at *
  go_loopg [10] 4 (fun h s10 wx => ∃ k : Nat, k + h = 4 ∧ s10 = .int .i64 k ∧ Blk wx w.heap.size 16 (withKR d i x r k) 37 ∧ Blk wx (w.heap.size + 1) 4 r 33 ∧ Blk wx (w.heap.size + 1 + 1) 16 (fun _ => 0) 37 ∧ Blk wx b9 8 (lineV d i) 103 ∧ Hid (Below w.heap.size w wx))
  case atStart => exact ⟨0, by omega, rfl, k1.congr fun j _ => (withKR_zero d i x r j).symm, k2, k3, k11, HB⟩
  case round =>
    clear k1 k2 k3 k11 HB
    obtain ⟨k, hkh, rfl, k3, k9, k2, k11, hb⟩ := hrel
    cases gk with
    | zero =>
      have hk : ¬ ((k : Int) < 4) := by omega
      obtain rfl : k = 4 := by omega
      have k3 := k3.congr fun j hj => withKR_all d i x r hj
      go_wp2_with (first | ((with_reducible show wpList _ _ _ (Oper.mk _ (Op.load 37 _) _ _ _ _ :: _) _ _); refine loadB (k3) rfl rfl rfl ?_) | ((with_reducible show wpList _ _ _ (Oper.mk _ (Op.store 37 _ _) _ _ _ _ :: _) _ _); refine storeB (k2) rfl rfl rfl rfl ?_))
      try simp only [Exit.inBlock, Exit.then]
      exact retcB (k2.row 16 _) rfl rfl rfl ⟨rfl, below_setRow hb.out (by omega) _⟩
    | succ q9 =>
      have hk : (k : Int) < 4 := by omega
      have hk0 : (0 : Int) ≤ (k : Int) := by omega
      have hk4 : k < 4 := by omega
      have hp := pos_lt (d := d) hi hk4
      have HR : Hid (lineV d i (k * 2) = ((pos d i k / 4 : Nat) : Int)) := lineV_row d i k
      have HC : Hid (lineV d i (k * 2 + 1) = ((pos d i k % 4 : Nat) : Int)) := lineV_col d i k
      have HP : Hid (pos d i k / 4 * 4 + pos d i k % 4 = pos d i k) := by show _ = _; omega
      have HO2 : Hid (∀ j, j < 16 → upd (withKR d i x r k) (pos d i k) (r k) j = withKR d i x r (k + 1) j) := fun j hj => withKR_step x r hi hk4 hj
      generalize withKR d i x r k = o at *
      have a0 := k3.cell (i := 0) (by omega)
      have a1 := k3.cell (i := 1) (by omega)
      have a2 := k3.cell (i := 2) (by omega)
      have a3 := k3.cell (i := 3) (by omega)
      have a4 := k3.cell (i := 4) (by omega)
      have a5 := k3.cell (i := 5) (by omega)
      have a6 := k3.cell (i := 6) (by omega)
      have a7 := k3.cell (i := 7) (by omega)
      have a8 := k3.cell (i := 8) (by omega)
      have a9 := k3.cell (i := 9) (by omega)
      have a10 := k3.cell (i := 10) (by omega)
      have a11 := k3.cell (i := 11) (by omega)
      have a12 := k3.cell (i := 12) (by omega)
      have a13 := k3.cell (i := 13) (by omega)
      have a14 := k3.cell (i := 14) (by omega)
      have a15 := k3.cell (i := 15) (by omega)
      have b0 := k11.cell (i := k * 2) (by omega)
      have b1 := k11.cell (i := k * 2 + 1) (by omega)
      have b2 := k9.cell (i := k) (by omega)
      have e16 : (#[.int .i64 (o 0), .int .i64 (o 1), .int .i64 (o 2), .int .i64 (o 3), .int .i64 (o 4), .int .i64 (o 5), .int .i64 (o 6), .int .i64 (o 7), .int .i64 (o 8), .int .i64 (o 9), .int .i64 (o 10), .int .i64 (o 11), .int .i64 (o 12), .int .i64 (o 13), .int .i64 (o 14), .int .i64 (o 15)] : Array Value) = mk 16 o := rfl
      have e2 : (#[.int .i64 (lineV d i (k * 2)), .int .i64 (lineV d i (k * 2 + 1))] : Array Value) = mk 2 (two (lineV d i (k * 2)) (lineV d i (k * 2 + 1))) := rfl
      clear z8 z16
      go_wp2_with fail
      go_region_with ((go_at_call 90; refine (l2Put_any _ _ (pos d i k / 4) (pos d i k % 4) _ _ HR.out HC.out (by omega) (by omega)).mono ?_; rintro e w6 ⟨rfl, hb6⟩; have hst := run_store_blk (P := Try.prog) (upd o (pos d i k / 4 * 4 + pos d i k % 4) (r k)) (k3.drew.below hb6 k3.lt)))
      all_goals
        have k2 := k2.drew.below hb6 k2.lt
        have k3 := k3.drew.below hb6 k3.lt
        have k9 := k9.drew.below hb6 k9.lt
        have k11 := k11.drew.below hb6 k11.lt
        have HB6 : Hid (Below w.heap.size w w6) := hb.out.drew.trans (hb6.mono hb.out.size)
        clear hb6 hst a0 a1 a2 a3 a4 a5 a6 a7 a8 a9 a10 a11 a12 a13 a14 a15 b0 b1 b2 e16 e2 hb
        rw [HP.out]
        go_wp2_with fail
        go_roundg q9
        case rel => exact ⟨k + 1, by omega, by go_num, (k3.row 16 _).congr HO2.out, k9.rowOther _ _ (by omega), k2.rowOther _ _ (by omega), k11.rowOther _ _ (by omega), below_setRow HB6.out (by omega) _⟩
        case measure => omega
end Go.Proofs.Ytblcojacmjbjcaa
