/-
  Several texts in one:
  The contract of the laws' helper rCells, on rows of cells.
  The contracts of EmptyCells, in the reference and in the program, for every board.
-/
import Derived.Test.YtfjpdopljmilpaaRowsKit
import Derived.Test.YtfjpdopljmilpaaBaseA
import Derived.Test.YtfjpdopljmilpaaPlainA
namespace Go.Proofs.Ytfjpdopljmilpaa
open Go.RowKit Plain
attribute [local go_sem] Oper.semAt_some

/-- Two cells, compared. -/
def sameC (f g : Nat → Int) : Bool := (List.range 2).all fun c => f c == g c
theorem sameC_rfl (f : Nat → Int) : sameC f f = true := by simp [sameC]
theorem eqC2 (d : Nat) (f g : Nat → Int) (w : World) : (Op.equalIn (d + 2) 37 (.agg (mk 2 f)) (.agg (mk 2 g))).run Try.prog w = .ok (sameC f g) w := by
  cases hq : Try.prog.info? 3 with
  | none => have := size1; simp [hq] at this
  | some i =>
    rw [run_equalIn_array w (d + 1) (mk 2 f) (mk 2 g) Try.underlying37 hq, cells1]
    exact items_all _ _ _ _ _ _ (fun c => .int .i64 (f c)) (fun c => .int .i64 (g c)) (fun c => f c == g c) _ fun c hc => by
      have hc4 : c < 2 := List.mem_range.1 hc
      exact ⟨part_int Try.underlying3 f hc4 w, part_int Try.underlying3 g hc4 w, run_equalIn_int w d _ _ _ _ _ Try.underlying3⟩
theorem neqC2 (f g : Nat → Int) (w : World) : (binOp .neq 37 (.agg (mk 2 f)) (.agg (mk 2 g))).run Try.prog w = .ok (.bool (!sameC f g)) w := by
  rw [run_neq_struct, eqC2]; rfl
theorem neqC2_self (f : Nat → Int) (w : World) : (binOp .neq 37 (.agg (mk 2 f)) (.agg (mk 2 f))).run Try.prog w = .ok (.bool false) w := by
  rw [neqC2, sameC_rfl]; rfl
theorem eqC2_self (f : Nat → Int) (w : World) : (Op.equalIn 10000 37 (.agg (mk 2 f)) (.agg (mk 2 f))).run Try.prog w = .ok true w := by
  rw [eqC2 9998, sameC_rfl]

set_option maxHeartbeats 1000000 in
set_option maxRecDepth 20000 in
theorem rCells_yes (v u : Value) (n : Nat) (h : Nat → Int) (w : World) (hv : CRow w v n h) (hu : CRow w u n h) (hn : n ≤ 1048576) :
    Calls Try.prog 81 #[v, u] w fun e w' => e = .returned (.bool true) ∧ ∃ k, w' = w.drewN k := by
  obtain ⟨b1, c1, rfl, _, _, hc1⟩ := hv
  obtain ⟨b2, c2, rfl, _, _, hc2⟩ := hu
  have HC1 := Lib.hid hc1
  have HC2 := Lib.hid hc2
  clear hc1 hc2
  go_enter Try.func81, Try.ntmps81
  go_wp2
  go_loopw [5] (fun i wr => ∃ k m : Nat, k ≤ n ∧ i = .int .i64 k ∧ wr = w.drewN m) (fun i _ => n - (intOf i).toNat)
  case atStart => exact ⟨0, 0, Nat.zero_le _, rfl, rfl⟩
  case round =>
    obtain ⟨k, m, hk, rfl, rfl⟩ := hrel
    by_cases hlt : k < n
    · have a0 := HC1.out (k * 2) (by omega)
      have a1 := HC1.out (k * 2 + 1) (by omega)
      have d0 := HC2.out (k * 2) (by omega)
      have d1 := HC2.out (k * 2 + 1) (by omega)
      have hb : (0 : Int) ≤ (k : Int) := by omega
      have hl : (k : Int) < (n : Int) := by omega
      have e2 : (#[.int .i64 (h (k * 2)), .int .i64 (h (k * 2 + 1))] : Array Value) = mk 2 (fun j => h (k * 2 + j)) := rfl
      have iE := eqC2_self (fun j => h (k * 2 + j))
      have iN := neqC2_self (fun j => h (k * 2 + j))
      go_wp2_with fail
      go_quiet (fail)
      all_goals
        clear a0 a1 d0 d1 e2 iE iN
        go_wp2
        go_roundw
        case rel => exact ⟨k + 1, _, by omega, by go_num, rfl⟩
        case measure => simp [intOf]; omega
    · go_wp2
      go_ret
      exact ⟨rfl, _, rfl⟩
end Go.Proofs.Ytfjpdopljmilpaa
namespace Go.Proofs.Ytfjpdopljmilpaa
open Go.RowKit Plain
attribute [local go_sem] store_new

/-- What EmptyCells returns. -/
def cellL (f : Nat → Int) : List Int := if Vd f then empL f 16 else []
def cellN (f : Nat → Int) : Nat := if Vd f then empN f 16 else 0
theorem cell_yes {f : Nat → Int} (h : Vd f) : cellL f = empL f 16 ∧ cellN f = empN f 16 := by simp [cellL, cellN, h]
theorem cell_no {f : Nat → Int} (h : ¬ Vd f) : cellL f = [] ∧ cellN f = 0 := by simp [cellL, cellN, h]
theorem cell_len (f : Nat → Int) : (cellL f).length = cellN f * 2 := by
  unfold cellL cellN
  split
  · exact emp_len f 16
  · rfl
theorem cellN_le (f : Nat → Int) : cellN f ≤ 16 := by
  unfold cellN
  split
  · exact empN_le f 16
  · omega

set_option maxHeartbeats 1000000 in
set_option maxRecDepth 20000 in
theorem implCells_any (f : Nat → Int) (w : World) :
    Calls Try.prog 157 #[.agg (mk 16 f)] w fun e w' => ∃ g cap, e = .returned (.tuple #[.slice (some ⟨g, 0, none⟩) (cellN f) cap, .bool (vdO f)]) ∧
      OwnsCells w' w.heap.size (.slice (some ⟨g, 0, none⟩) (cellN f) cap) (cellN f) (cellL f) ∧ Below w.heap.size w w' := by
  obtain ⟨i0, hi, hz0, hz1, hz2⟩ := info_parts infoCell
  have z4 := zero4
  have iG := idxG
  have iR := idxR
  have K1 := Blk.new w 16 f 26
  have HB := Lib.hid ((Below.refl w.heap.size w).alloc (Nat.le_refl _) (.cells (mk 16 f) 26))
  by_cases hV : Vd f
  · obtain ⟨y1, y2⟩ := cell_yes hV
    rw [y1, y2, vdO_yes hV]
    go_enter Try.func157, Try.ntmps157
    go_wp2_with ((with_reducible show wpList _ _ _ (Oper.mk _ (Op.load 26 _) _ _ _ _ :: _) _ _); refine loadB (K1) rfl rfl rfl ?_)
    refine (implBoard_yes _ _ hV).mono ?_
    rintro e w1 ⟨rfl, hb⟩
    have K1 := (K1.below hb K1.lt).alloc (.cells #[] 37)
    have HB1 : Hid (Below w.heap.size w w1) := HB.out.trans (hb.mono HB.out.size)
    have HB : Hid (Below w.heap.size w (w1.alloc (.cells #[] 37))) := HB1.out.alloc HB1.out.size _
    have HO : OwnsCells (w1.alloc (.cells #[] 37)) (w.heap.size + 1) (.slice (some ⟨w1.heap.size, 0, none⟩) 0 0) 0 [] :=
      World.ownsRow_made (base := w.heap.size + 1) (e := 37) (size := 2) w1 #[] 0 (by have := hb.size; simpa using this) (by decide) rfl
    clear hb HB1 hV y1 y2
    go_wp2_with ((with_reducible show wpList _ _ _ (Oper.mk _ (Op.load 23 _) _ _ _ _ :: _) _ _); refine loadG (K1) rfl rfl rfl ?_)
    generalize w1.alloc (.cells #[] 37) = w9 at *
    go_loopg [4, 16] 4 (fun g s4 s16 wr => ∃ (r : Nat) (v : Value), r + g = 4 ∧ s16 = .int .i64 r ∧ v = s4 ∧ (∃ gg cap, v = .slice (some ⟨gg, 0, none⟩) (empN f (r * 4)) cap) ∧ OwnsCells wr (w.heap.size + 1) v (empN f (r * 4)) (empL f (r * 4)) ∧ w.heap.size < wr.heap.size ∧ Hid (Below w.heap.size w wr))
    case atStart => exact ⟨0, _, by omega, rfl, rfl, ⟨_, _, rfl⟩, HO, K1.lt, HB⟩
    case round =>
      obtain ⟨r, v, hrg, rfl, rfl, hv, ho, hlt, hb⟩ := hrel
      cases gk with
      | zero =>
        have hr : ¬ ((r : Int) < 4) := by omega
        obtain rfl : r = 4 := by omega
        clear hrg hr
        obtain ⟨gg, cap, rfl⟩ := hv
        go_wp2_with fail
        go_ret2
        exact ⟨gg, cap, rfl, ownsRow_wide ho (by omega), hb.out⟩
      | succ g =>
        have hr4 : (r : Int) < 4 := by omega
        have hr5 : r < 4 := by omega
        go_wp2_with ((with_reducible show wpList _ _ _ (Oper.mk _ (Op.load 22 _) _ _ _ _ :: _) _ _); refine loadR (Blk.new _ _ _ _) rfl rfl rfl ?_)
        go_loopg [4, 21] 4 (fun h s4 s21 wx => ∃ (c : Nat) (v : Value), c + h = 4 ∧ s21 = .int .i64 c ∧ v = s4 ∧ (∃ gg cap, v = .slice (some ⟨gg, 0, none⟩) (empN f (r * 4 + c)) cap) ∧ OwnsCells wx (w.heap.size + 1) v (empN f (r * 4 + c)) (empL f (r * 4 + c)) ∧ w.heap.size < wx.heap.size ∧ Hid (Below w.heap.size w wx))
        case atStart => exact ⟨0, _, by omega, rfl, rfl, hv, World.ownsRow.alloc ho _, by simp; omega, hb.out.alloc hb.out.size _⟩
        case round =>
          obtain ⟨c, v, hch, rfl, rfl, hv, ho, hlt, hb⟩ := hrel
          cases gk with
          | zero =>
            have hc : ¬ ((c : Int) < 4) := by omega
            have HC : Hid (r * 4 + c = (r + 1) * 4) := by show _ = _; omega
            go_wp2_with fail
            go_roundg g
            case rel => exact ⟨r + 1, _, by omega, by go_num, rfl, by rw [HC.out] at hv; exact hv, by rw [HC.out] at ho; exact ho, hlt, hb⟩
            case measure => omega
          | succ h =>
            have hc : (c : Int) < 4 := by omega
            have hc5 : c < 4 := by omega
            have hn := empN_le f (r * 4 + c)
            have hn16 : empN f (r * 4 + c) ≤ 16 := by omega
            by_cases h0 : f (r * 4 + c) = 0
            · obtain ⟨y1, y2⟩ := emp_yes h0
              have Y1 := Lib.hid y1
              have Y2 := Lib.hid y2
              have HQ : Hid ((r * 4 + c) / 4 = r ∧ (r * 4 + c) % 4 = c) := by show _ ∧ _; omega
              clear y1 y2
              have ho0 : wr.ownsRow (w.heap.size + 1) 37 2 v (empN f (r * 4 + c)) ((empL f (r * 4 + c)).map (Value.int .i64)) := ho
              clear ho
              have hsz := hb.out.size
              go_wp2_with (at_builtin; refine wpList_append_own _ rfl _ _ 98 rfl (w.heap.size + 1) 37 i0 (.agg #[.int .i64 0, .int .i64 0]) 2 16 Try.underlying98 hi hz0 hz1 hz2 rfl (by decide) _ _ _ rfl (ho0.alloc _) ⟨wr.heap.size, 0, none⟩ 1 1 [.int .i64 r, .int .i64 c] rfl rfl ?c1 ?c2 ?c3 ?c4 ?c5 ?_)
              case c1 => exact cell_two_new _ _ _ _
              case c2 => simp [Value.oneCell']
              case c3 => unfold maxLen; omega
              case c4 => omega
              case c5 => simp; omega
              intro v' w2 hown' hgrow' _
              obtain ⟨gg, cap, hv'⟩ := ownsRow_succ hown'
              have HV' : Hid (∃ gg cap, v' = .slice (some ⟨gg, 0, none⟩) (empN f (r * 4 + c) + 1) cap) := ⟨gg, cap, hv'⟩
              have HB2 : Hid (Below w.heap.size w w2) := ((hb.out).alloc hsz _).grown hgrow' (by simp; omega) (fun j hj => by have := (ho0.lt j hj).1; omega)
              have HO : Hid (OwnsCells w2 (w.heap.size + 1) v' (empN f (r * 4 + c) + 1) (empL f (r * 4 + c) ++ [(r : Int), (c : Int)])) := by
                show OwnsCells _ _ _ _ _
                unfold OwnsCells
                rw [List.map_append]
                exact hown'
              have hlt2 : w.heap.size < w2.heap.size := by have := hgrow'.size; simp at this; omega
              clear hown' hgrow' ho0 hv'
              go_wp2_with fail
              go_roundg h
              case rel => exact ⟨c + 1, _, by omega, by go_num, rfl, by rw [show r * 4 + (c + 1) = r * 4 + c + 1 by omega, Y2.out]; exact HV'.out, by rw [show r * 4 + (c + 1) = r * 4 + c + 1 by omega, Y1.out, Y2.out, HQ.out.1, HQ.out.2]; exact HO.out, hlt2, HB2⟩
              case measure => omega
            · obtain ⟨y1, y2⟩ := emp_no h0
              have Y1 := Lib.hid y1
              have Y2 := Lib.hid y2
              have q0 : (f (r * 4 + c) == 0) = false := by simpa using h0
              clear y1 y2 h0
              go_wp2_with fail
              go_roundg h
              case rel => exact ⟨c + 1, _, by omega, by go_num, rfl, by rw [show r * 4 + (c + 1) = r * 4 + c + 1 by omega, Y2.out]; exact hv, by rw [show r * 4 + (c + 1) = r * 4 + c + 1 by omega, Y1.out, Y2.out]; exact ho, hlt, hb⟩
              case measure => omega
  · obtain ⟨y1, y2⟩ := cell_no hV
    rw [y1, y2, vdO_no hV]
    go_enter Try.func157, Try.ntmps157
    go_wp2_with ((with_reducible show wpList _ _ _ (Oper.mk _ (Op.load 26 _) _ _ _ _ :: _) _ _); refine loadB (K1) rfl rfl rfl ?_)
    refine (implBoard_no _ _ hV).mono ?_
    rintro e w1 ⟨rfl, hb⟩
    have HB1 : Hid (Below w.heap.size w w1) := HB.out.trans (hb.mono HB.out.size)
    clear hb HB K1 hV y1 y2
    have HO := Lib.hid (World.ownsRow_made (base := w.heap.size) (e := 37) (size := 2) w1 #[] 0 HB1.out.size (by decide) rfl)
    have HB2 : Hid (Below w.heap.size w (w1.alloc (.cells #[] 37))) := HB1.out.alloc HB1.out.size _
    go_wp2_with fail
    go_ret2
    exact ⟨_, _, rfl, HO.out, HB2.out⟩
end Go.Proofs.Ytfjpdopljmilpaa
