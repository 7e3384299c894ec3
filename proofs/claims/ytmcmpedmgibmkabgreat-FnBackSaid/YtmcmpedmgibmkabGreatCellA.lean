/-
  Several texts in one:
  The contract of the laws' helper rCells, on rows of cells.
  The contracts of EmptyCells, in the reference and in the program, for every board.
-/
import Derived.Test.YtmcmpedmgibmkabGreatRowsKit
import Derived.Test.YtmcmpedmgibmkabGreatBaseA
import Derived.Test.YtmcmpedmgibmkabGreatPlainA
namespace Go.Proofs.YtmcmpedmgibmkabGreat
open Go.RowKit Plain
attribute [local go_sem] Oper.semAt_some

/-- Two cells, compared. -/
def sameC (f g : Nat → Int) : Bool := (List.range 2).all fun c => f c == g c
theorem sameC_rfl (f : Nat → Int) : sameC f f = true := by simp [sameC]
theorem eqC2 (d : Nat) (f g : Nat → Int) (w : World) : (Op.equalIn (d + 2) 56 (.agg (mk 2 f)) (.agg (mk 2 g))).run Tryz.prog w = .ok (sameC f g) w := by
  cases hq : Tryz.prog.info? 3 with
  | none => have := size1; simp [hq] at this
  | some i =>
    rw [run_equalIn_array w (d + 1) (mk 2 f) (mk 2 g) Tryz.underlying56 hq, cells1]
    exact items_all _ _ _ _ _ _ (fun c => .int .i64 (f c)) (fun c => .int .i64 (g c)) (fun c => f c == g c) _ fun c hc => by
      have hc4 : c < 2 := List.mem_range.1 hc
      exact ⟨part_int Tryz.underlying3 f hc4 w, part_int Tryz.underlying3 g hc4 w, run_equalIn_int w d _ _ _ _ _ Tryz.underlying3⟩
theorem neqC2 (f g : Nat → Int) (w : World) : (binOp .neq 56 (.agg (mk 2 f)) (.agg (mk 2 g))).run Tryz.prog w = .ok (.bool (!sameC f g)) w := by
  rw [run_neq_struct, eqC2]; rfl
theorem neqC2_self (f : Nat → Int) (w : World) : (binOp .neq 56 (.agg (mk 2 f)) (.agg (mk 2 f))).run Tryz.prog w = .ok (.bool false) w := by
  rw [neqC2, sameC_rfl]; rfl
theorem eqC2_self (f : Nat → Int) (w : World) : (Op.equalIn 10000 56 (.agg (mk 2 f)) (.agg (mk 2 f))).run Tryz.prog w = .ok true w := by
  rw [eqC2 9998, sameC_rfl]

set_option maxHeartbeats 1000000 in
set_option maxRecDepth 20000 in
theorem rCells_yes (v u : Value) (n : Nat) (h : Nat → Int) (w : World) (hv : CRow w v n h) (hu : CRow w u n h) (hn : n ≤ 1048576) :
    Calls Tryz.prog 21 #[v, u] w fun e w' => e = .returned (.bool true) ∧ ∃ k, w' = w.drewN k := by
  obtain ⟨b1, c1, rfl, _, _, hc1⟩ := hv
  obtain ⟨b2, c2, rfl, _, _, hc2⟩ := hu
  have HC1 := Lib.hid hc1
  have HC2 := Lib.hid hc2
  clear hc1 hc2
  go_enter Tryz.func21, Tryz.ntmps21
  go_wp2
  go_loopw [5] (fun i wr => ∃ k m : Nat, k ≤ n ∧ i = .int .i64 k ∧ wr = w.drewN m) (fun i _ => n - (intOf i).toNat)
  case atStart => exact ⟨0, 0, Nat.zero_le _, rfl, rfl⟩
  case round =>
    obtain ⟨k, m, hk, rfl, rfl⟩ := hrel
    by_cases hlt : k < n
    · have a0 := HC1.out (k * 2) (by omega)
      have a1 := HC1.out (k * 2 + 1) (by omega)
      have d0 := HC2.out (k * 2) (by omega)
      have d1 := HC2.out (k * 2 + 1) (by omega)
      have hb : (0 : Int) ≤ (k : Int) := by omega
      have hl : (k : Int) < (n : Int) := by omega
      have e2 : (#[.int .i64 (h (k * 2)), .int .i64 (h (k * 2 + 1))] : Array Value) = mk 2 (fun j => h (k * 2 + j)) := rfl
      have iE := eqC2_self (fun j => h (k * 2 + j))
      have iN := neqC2_self (fun j => h (k * 2 + j))
      go_wp2_with fail
      go_quiet (fail)
      all_goals
        clear a0 a1 d0 d1 e2 iE iN
        go_wp2
        go_roundw
        case rel => exact ⟨k + 1, _, by omega, by go_num, rfl⟩
        case measure => simp [intOf]; omega
    · go_wp2
      go_ret
      exact ⟨rfl, _, rfl⟩
end Go.Proofs.YtmcmpedmgibmkabGreat
namespace Go.Proofs.YtmcmpedmgibmkabGreat
open Go.RowKit Plain
attribute [local go_sem] store_new

/-- What EmptyCells returns. -/
def cellL (f : Nat → Int) : List Int := if Vd f then empL f 16 else []
def cellN (f : Nat → Int) : Nat := if Vd f then empN f 16 else 0
theorem cell_yes {f : Nat → Int} (h : Vd f) : cellL f = empL f 16 ∧ cellN f = empN f 16 := by simp [cellL, cellN, h]
theorem cell_no {f : Nat → Int} (h : ¬ Vd f) : cellL f = [] ∧ cellN f = 0 := by simp [cellL, cellN, h]
theorem cell_len (f : Nat → Int) : (cellL f).length = cellN f * 2 := by
  unfold cellL cellN
  split
  · exact emp_len f 16
  · rfl
theorem cellN_le (f : Nat → Int) : cellN f ≤ 16 := by
  unfold cellN
  split
  · exact empN_le f 16
  · omega

end Go.Proofs.YtmcmpedmgibmkabGreat
