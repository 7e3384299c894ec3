/-
  The contracts of CommutingPairs, in the reference and in the program, for every board.
-/
import Derived.Test.YtknjmkapabjolaaCommute
import Derived.Test.YtknjmkapabjolaaCellsOf
namespace Go.Proofs.Ytknjmkapabjolaa
open Go.RowKit Plain
attribute [local go_sem] store_new

/-- The pairs of directions that commute, among the first k of 16, two numbers a pair; and how many. -/
def cpOk (f : Nat → Int) (k : Nat) : Bool := decide (k / 4 < k % 4) && comB f (k / 4) (k % 4)
def cpL (f : Nat → Int) : Nat → List Int
  | 0 => []
  | k + 1 => if cpOk f k = true then cpL f k ++ [((k / 4 : Nat) : Int), ((k % 4 : Nat) : Int)] else cpL f k
def cpN (f : Nat → Int) : Nat → Nat
  | 0 => 0
  | k + 1 => if cpOk f k = true then cpN f k + 1 else cpN f k
theorem cp_yes {f : Nat → Int} {k : Nat} (h : cpOk f k = true) : cpL f (k + 1) = cpL f k ++ [((k / 4 : Nat) : Int), ((k % 4 : Nat) : Int)] ∧ cpN f (k + 1) = cpN f k + 1 := by simp [cpL, cpN, h]
theorem cp_no {f : Nat → Int} {k : Nat} (h : cpOk f k = false) : cpL f (k + 1) = cpL f k ∧ cpN f (k + 1) = cpN f k := by simp [cpL, cpN, h]
theorem cpN_le (f : Nat → Int) (k : Nat) : cpN f k ≤ k := by
  induction k with
  | zero => exact Nat.le_refl _
  | succ k ih => unfold cpN; split <;> omega
theorem cp_len (f : Nat → Int) (k : Nat) : (cpL f k).length = cpN f k * 2 := by
  induction k with
  | zero => rfl
  | succ k ih => unfold cpL cpN; split <;> simp [ih]; omega
theorem cp_skip (f : Nat → Int) (d : Nat) (hd : d < 4) : ∀ j, j ≤ d + 1 → cpL f (d * 4 + j) = cpL f (d * 4) ∧ cpN f (d * 4 + j) = cpN f (d * 4)
  | 0, _ => ⟨rfl, rfl⟩
  | j + 1, h => by
    obtain ⟨i1, i2⟩ := cp_skip f d hd j (by omega)
    have h0 : cpOk f (d * 4 + j) = false := by
      unfold cpOk
      rw [decide_eq_false (by omega), Bool.false_and]
    obtain ⟨y1, y2⟩ := cp_no h0
    rw [← Nat.add_assoc, y1, y2]
    exact ⟨i1, i2⟩
/-- What CommutingPairs returns. -/
def cpRL (f : Nat → Int) : List Int := if Vd f then cpL f 16 else []
def cpRN (f : Nat → Int) : Nat := if Vd f then cpN f 16 else 0
theorem cpR_yes {f : Nat → Int} (h : Vd f) : cpRL f = cpL f 16 ∧ cpRN f = cpN f 16 := by simp [cpRL, cpRN, h]
theorem cpR_no {f : Nat → Int} (h : ¬ Vd f) : cpRL f = [] ∧ cpRN f = 0 := by simp [cpRL, cpRN, h]
theorem cpR_len (f : Nat → Int) : (cpRL f).length = cpRN f * 2 := by
  unfold cpRL cpRN
  split
  · exact cp_len f 16
  · rfl
theorem cpRN_le (f : Nat → Int) : cpRN f ≤ 16 := by
  unfold cpRN
  split
  · exact cpN_le f 16
  · omega
set_option maxHeartbeats 2000000 in
set_option maxRecDepth 20000 in
theorem implCp_any (f : Nat → Int) (w : World) :
    Calls Try.prog 53 #[.agg (mk 16 f)] w fun e w' => ∃ g cap, e = .returned (.tuple #[.slice (some ⟨g, 0, none⟩) (cpRN f) cap, .bool (vdO f)]) ∧
      OwnsCells w' w.heap.size (.slice (some ⟨g, 0, none⟩) (cpRN f) cap) (cpRN f) (cpRL f) ∧ Below w.heap.size w w' := by
  obtain ⟨i0, hi, hz0, hz1, hz2⟩ := info_parts infoCell
  have K1 := Blk.new w 16 f 29
  have HB := Lib.hid ((Below.refl w.heap.size w).alloc (Nat.le_refl _) (.cells (mk 16 f) 29))
  by_cases hV : Vd f
  · obtain ⟨y1, y2⟩ := cpR_yes hV
    rw [y1, y2, vdO_yes hV]
    have HV := Lib.hid hV
    go_enter Try.func53, Try.ntmps53
    go_wp2_with ((with_reducible show wpList _ _ _ (Oper.mk _ (Op.load 29 _) _ _ _ _ :: _) _ _); refine loadB (K1) rfl rfl rfl ?_)
    refine (implBoard_yes _ _ hV).mono ?_
    rintro e w1 ⟨rfl, hb⟩
    have K1 := (K1.below hb K1.lt).alloc (.cells #[] 26)
    have HB1 : Hid (Below w.heap.size w w1) := HB.out.trans (hb.mono HB.out.size)
    have HB : Hid (Below w.heap.size w (w1.alloc (.cells #[] 26))) := HB1.out.alloc HB1.out.size _
    have HO : OwnsCells (w1.alloc (.cells #[] 26)) (w.heap.size + 1) (.slice (some ⟨w1.heap.size, 0, none⟩) 0 0) 0 [] :=
      World.ownsRow_made (base := w.heap.size + 1) (e := 26) (size := 2) w1 #[] 0 (by have := hb.size; simpa using this) (by decide) rfl
    clear hb HB1 hV y1 y2
    go_wp2_with fail
    generalize w1.alloc (.cells #[] 26) = w9 at *
    go_loopg [4, 12] 4 (fun g s4 s12 wr => ∃ (r : Nat) (v : Value), r + g = 4 ∧ s12 = .int .i64 r ∧ v = s4 ∧ (∃ gg cap, v = .slice (some ⟨gg, 0, none⟩) (cpN f (r * 4)) cap) ∧ OwnsCells wr (w.heap.size + 1) v (cpN f (r * 4)) (cpL f (r * 4)) ∧ Blk wr w.heap.size 16 f 29 ∧ Hid (Below w.heap.size w wr))
    case atStart => exact ⟨0, _, by omega, rfl, rfl, ⟨_, _, rfl⟩, HO, K1, HB⟩
    case round =>
      obtain ⟨r, v, hrg, rfl, rfl, hv, ho, k1, hb⟩ := hrel
      cases gk with
      | zero =>
        have hr : ¬ ((r : Int) < 4) := by omega
        obtain rfl : r = 4 := by omega
        clear hrg hr
        obtain ⟨gg, cap, rfl⟩ := hv
        go_wp2_with fail
        go_ret2
        exact ⟨gg, cap, rfl, ownsRow_wide ho (by omega), hb.out⟩
      | succ g =>
        have hr4 : (r : Int) < 4 := by omega
        have hr5 : r < 4 := by omega
        have HK := Lib.hid (cp_skip f r hr5)
        go_wp2_with fail
        go_loopg [4, 6] (3 - r) (fun h s4 s6 wx => ∃ (c : Nat) (v : Value), c + h = 4 ∧ r < c ∧ s6 = .int .i64 c ∧ v = s4 ∧ (∃ gg cap, v = .slice (some ⟨gg, 0, none⟩) (cpN f (r * 4 + c)) cap) ∧ OwnsCells wx (w.heap.size + 1) v (cpN f (r * 4 + c)) (cpL f (r * 4 + c)) ∧ Blk wx w.heap.size 16 f 29 ∧ Hid (Below w.heap.size w wx))
        case atStart => exact ⟨r + 1, _, by omega, by omega, by go_num, rfl, by rw [(HK.out (r + 1) (Nat.le_refl _)).2]; exact hv, by rw [(HK.out (r + 1) (Nat.le_refl _)).1, (HK.out (r + 1) (Nat.le_refl _)).2]; exact ho, k1, hb⟩
        case round =>
          obtain ⟨c, v, hch, hrc, rfl, rfl, hv, ho, k1, hb⟩ := hrel
          cases gk with
          | zero =>
            have hc : ¬ ((c : Int) < 4) := by omega
            have HC : Hid (r * 4 + c = (r + 1) * 4) := by show _ = _; omega
            go_wp2_with fail
            go_roundg g
            case rel => exact ⟨r + 1, _, by omega, by go_num, rfl, by rw [HC.out] at hv; exact hv, by rw [HC.out] at ho; exact ho, k1, hb⟩
            case measure => omega
          | succ h =>
            have hc : (c : Int) < 4 := by omega
            have hc5 : c < 4 := by omega
            have hn := cpN_le f (r * 4 + c)
            have hn16 : cpN f (r * 4 + c) ≤ 16 := by omega
            have HQ : Hid ((r * 4 + c) / 4 = r ∧ (r * 4 + c) % 4 = c) := by show _ ∧ _; omega
            have HX : Hid (cpOk f (r * 4 + c) = comB f r c) := by
              show _ = _
              unfold cpOk
              rw [HQ.out.1, HQ.out.2, decide_eq_true hrc, Bool.true_and]
            go_wp2_with ((with_reducible show wpList _ _ _ (Oper.mk _ (Op.load 29 _) _ _ _ _ :: _) _ _); refine loadB (k1) rfl rfl rfl ?_)
            refine (commute_nat f r c _ HV.out hr5 hc5).mono ?_
            rintro e w3 ⟨rfl, hb3⟩
            have k1 := k1.below hb3 k1.lt
            have ho := owns_below ho hb3
            have hb : Hid (Below w.heap.size w w3) := hb.out.trans (hb3.mono hb.out.size)
            clear hb3
            cases hq : comB f r c with
            | true =>
              obtain ⟨y1, y2⟩ := cp_yes (HX.out.trans hq)
              have Y1 := Lib.hid y1
              have Y2 := Lib.hid y2
              clear y1 y2 hq
              have ho0 : w3.ownsRow (w.heap.size + 1) 26 2 v (cpN f (r * 4 + c)) ((cpL f (r * 4 + c)).map (Value.int .i64)) := ho
              clear ho
              have hsz := hb.out.size
              go_wp2_with (at_builtin; refine wpList_append_own _ rfl _ _ 74 rfl (w.heap.size + 1) 26 i0 (.agg #[.int .i64 0, .int .i64 0]) 2 16 Try.underlying74 hi hz0 hz1 hz2 rfl (by decide) _ _ _ rfl (ho0.alloc _) ⟨w3.heap.size, 0, none⟩ 1 1 [.int .i64 r, .int .i64 c] rfl rfl ?c1 ?c2 ?c3 ?c4 ?c5 ?_)
              case c1 => exact cell_two_new _ _ _ _
              case c2 => simp [Value.oneCell']
              case c3 => unfold maxLen; omega
              case c4 => omega
              case c5 => simp; omega
              intro v' w2 hown' hgrow' _
              obtain ⟨gg, cap, hv'⟩ := ownsRow_succ hown'
              have HV' : Hid (∃ gg cap, v' = .slice (some ⟨gg, 0, none⟩) (cpN f (r * 4 + c) + 1) cap) := ⟨gg, cap, hv'⟩
              have HB2 : Hid (Below w.heap.size w w2) := ((hb.out).alloc hsz _).grown hgrow' (by simp; omega) (fun j hj => by have := (ho0.lt j hj).1; omega)
              have K2 := (k1.alloc (.cells #[.int .i64 r, .int .i64 c] 26)).grown hgrow' (fun e => by have := (ho0.lt _ e.symm).1; omega)
              have HO : Hid (OwnsCells w2 (w.heap.size + 1) v' (cpN f (r * 4 + c) + 1) (cpL f (r * 4 + c) ++ [(r : Int), (c : Int)])) := by
                show OwnsCells _ _ _ _ _
                unfold OwnsCells
                rw [List.map_append]
                exact hown'
              clear hown' hgrow' ho0 hv' k1
              go_wp2_with fail
              go_roundg h
              case rel => exact ⟨c + 1, _, by omega, by omega, by go_num, rfl, by rw [show r * 4 + (c + 1) = r * 4 + c + 1 by omega, Y2.out]; exact HV'.out, by rw [show r * 4 + (c + 1) = r * 4 + c + 1 by omega, Y1.out, Y2.out, HQ.out.1, HQ.out.2]; exact HO.out, K2, HB2⟩
              case measure => omega
            | false =>
              obtain ⟨y1, y2⟩ := cp_no (HX.out.trans hq)
              have Y1 := Lib.hid y1
              have Y2 := Lib.hid y2
              clear y1 y2 hq
              go_wp2_with fail
              go_roundg h
              case rel => exact ⟨c + 1, _, by omega, by omega, by go_num, rfl, by rw [show r * 4 + (c + 1) = r * 4 + c + 1 by omega, Y2.out]; exact hv, by rw [show r * 4 + (c + 1) = r * 4 + c + 1 by omega, Y1.out, Y2.out]; exact ho, k1, hb⟩
              case measure => omega
  · obtain ⟨y1, y2⟩ := cpR_no hV
    rw [y1, y2, vdO_no hV]
    go_enter Try.func53, Try.ntmps53
    go_wp2_with ((with_reducible show wpList _ _ _ (Oper.mk _ (Op.load 29 _) _ _ _ _ :: _) _ _); refine loadB (K1) rfl rfl rfl ?_)
    refine (implBoard_no _ _ hV).mono ?_
    rintro e w1 ⟨rfl, hb⟩
    have HB1 : Hid (Below w.heap.size w w1) := HB.out.trans (hb.mono HB.out.size)
    clear hb HB K1 hV y1 y2
    have HO := Lib.hid (World.ownsRow_made (base := w.heap.size) (e := 26) (size := 2) w1 #[] 0 HB1.out.size (by decide) rfl)
    have HB2 : Hid (Below w.heap.size w (w1.alloc (.cells #[] 26))) := HB1.out.alloc HB1.out.size _
    go_wp2_with fail
    go_ret2
    exact ⟨_, _, rfl, HO.out, HB2.out⟩
set_option maxHeartbeats 2000000 in
set_option maxRecDepth 20000 in
theorem specCp_any (f : Nat → Int) (w : World) :
    Calls Try.prog 54 #[.agg (mk 16 f)] w fun e w' => ∃ g cap, e = .returned (.tuple #[.slice (some ⟨g, 0, none⟩) (cpRN f) cap, .bool (vdO f)]) ∧
      OwnsCells w' w.heap.size (.slice (some ⟨g, 0, none⟩) (cpRN f) cap) (cpRN f) (cpRL f) ∧ Below w.heap.size w w' := by
  obtain ⟨i0, hi, hz0, hz1, hz2⟩ := info_parts infoCell
  have K1 := (Blk.new w 16 f 29).alloc (.cells #[] 26)
  have HB := Lib.hid (((Below.refl w.heap.size w).alloc (Nat.le_refl _) (.cells (mk 16 f) 29)).alloc (by simp) (.cells #[] 26))
  have HO : OwnsCells ((w.alloc (.cells (mk 16 f) 29)).alloc (.cells #[] 26)) (w.heap.size + 1) (.slice (some ⟨w.heap.size + 1, 0, none⟩) 0 0) 0 [] := by
    have := World.ownsRow_made (base := w.heap.size + 1) (e := 26) (size := 2) (w.alloc (.cells (mk 16 f) 29)) #[] 0 (by simp) (by decide) rfl
    simp only [World.size_alloc] at this
    exact this
  by_cases hV : Vd f
  · obtain ⟨y1, y2⟩ := cpR_yes hV
    rw [y1, y2, vdO_yes hV]
    have HV := Lib.hid hV
    go_enter Try.func54, Try.ntmps54
    go_wp2_with ((with_reducible show wpList _ _ _ (Oper.mk _ (Op.load 29 _) _ _ _ _ :: _) _ _); refine loadB (K1) rfl rfl rfl ?_)
    refine (l2Board_yes _ _ hV).mono ?_
    rintro e w1 ⟨rfl, hb⟩
    have K1 := K1.below hb K1.lt
    have HB : Hid (Below w.heap.size w w1) := HB.out.trans (hb.mono HB.out.size)
    have HO : OwnsCells w1 (w.heap.size + 1) (.slice (some ⟨w.heap.size + 1, 0, none⟩) 0 0) 0 [] := owns_below HO hb
    clear hb hV y1 y2
    go_wp2_with fail
    go_loopg [4, 5] 4 (fun g s4 s12 wr => ∃ (r : Nat) (v : Value), r + g = 4 ∧ s12 = .int .i64 r ∧ v = s4 ∧ (∃ gg cap, v = .slice (some ⟨gg, 0, none⟩) (cpN f (r * 4)) cap) ∧ OwnsCells wr (w.heap.size + 1) v (cpN f (r * 4)) (cpL f (r * 4)) ∧ Blk wr w.heap.size 16 f 29 ∧ Hid (Below w.heap.size w wr))
    case atStart => exact ⟨0, _, by omega, rfl, rfl, ⟨_, _, rfl⟩, HO, K1, HB⟩
    case round =>
      obtain ⟨r, v, hrg, rfl, rfl, hv, ho, k1, hb⟩ := hrel
      cases gk with
      | zero =>
        have hr : ¬ ((r : Int) < 4) := by omega
        obtain rfl : r = 4 := by omega
        clear hrg hr
        obtain ⟨gg, cap, rfl⟩ := hv
        go_wp2_with fail
        go_ret2
        exact ⟨gg, cap, rfl, ownsRow_wide ho (by omega), hb.out⟩
      | succ g =>
        have hr4 : (r : Int) < 4 := by omega
        have hr5 : r < 4 := by omega
        have HK := Lib.hid (cp_skip f r hr5)
        go_wp2_with fail
        go_loopg [4, 6] (3 - r) (fun h s4 s6 wx => ∃ (c : Nat) (v : Value), c + h = 4 ∧ r < c ∧ s6 = .int .i64 c ∧ v = s4 ∧ (∃ gg cap, v = .slice (some ⟨gg, 0, none⟩) (cpN f (r * 4 + c)) cap) ∧ OwnsCells wx (w.heap.size + 1) v (cpN f (r * 4 + c)) (cpL f (r * 4 + c)) ∧ Blk wx w.heap.size 16 f 29 ∧ Hid (Below w.heap.size w wx))
        case atStart => exact ⟨r + 1, _, by omega, by omega, by go_num, rfl, by rw [(HK.out (r + 1) (Nat.le_refl _)).2]; exact hv, by rw [(HK.out (r + 1) (Nat.le_refl _)).1, (HK.out (r + 1) (Nat.le_refl _)).2]; exact ho, k1, hb⟩
        case round =>
          obtain ⟨c, v, hch, hrc, rfl, rfl, hv, ho, k1, hb⟩ := hrel
          cases gk with
          | zero =>
            have hc : ¬ ((c : Int) < 4) := by omega
            have HC : Hid (r * 4 + c = (r + 1) * 4) := by show _ = _; omega
            go_wp2_with fail
            go_roundg g
            case rel => exact ⟨r + 1, _, by omega, by go_num, rfl, by rw [HC.out] at hv; exact hv, by rw [HC.out] at ho; exact ho, k1, hb⟩
            case measure => omega
          | succ h =>
            have hc : (c : Int) < 4 := by omega
            have hc5 : c < 4 := by omega
            have hn := cpN_le f (r * 4 + c)
            have hn16 : cpN f (r * 4 + c) ≤ 16 := by omega
            have HQ : Hid ((r * 4 + c) / 4 = r ∧ (r * 4 + c) % 4 = c) := by show _ ∧ _; omega
            have HX : Hid (cpOk f (r * 4 + c) = comB f r c) := by
              show _ = _
              unfold cpOk
              rw [HQ.out.1, HQ.out.2, decide_eq_true hrc, Bool.true_and]
            go_wp2_with ((with_reducible show wpList _ _ _ (Oper.mk _ (Op.load 29 _) _ _ _ _ :: _) _ _); refine loadB (k1) rfl rfl rfl ?_)
            refine (l3Commute_nat f r c _ HV.out hr5 hc5).mono ?_
            rintro e w3 ⟨rfl, hb3⟩
            have k1 := k1.below hb3 k1.lt
            have ho := owns_below ho hb3
            have hb : Hid (Below w.heap.size w w3) := hb.out.trans (hb3.mono hb.out.size)
            clear hb3
            cases hq : comB f r c with
            | true =>
              obtain ⟨y1, y2⟩ := cp_yes (HX.out.trans hq)
              have Y1 := Lib.hid y1
              have Y2 := Lib.hid y2
              clear y1 y2 hq
              have ho0 : w3.ownsRow (w.heap.size + 1) 26 2 v (cpN f (r * 4 + c)) ((cpL f (r * 4 + c)).map (Value.int .i64)) := ho
              clear ho
              have hsz := hb.out.size
              go_wp2_with (at_builtin; refine wpList_append_own _ rfl _ _ 74 rfl (w.heap.size + 1) 26 i0 (.agg #[.int .i64 0, .int .i64 0]) 2 16 Try.underlying74 hi hz0 hz1 hz2 rfl (by decide) _ _ _ rfl (ho0.alloc _) ⟨w3.heap.size, 0, none⟩ 1 1 [.int .i64 r, .int .i64 c] rfl rfl ?c1 ?c2 ?c3 ?c4 ?c5 ?_)
              case c1 => exact cell_two_new _ _ _ _
              case c2 => simp [Value.oneCell']
              case c3 => unfold maxLen; omega
              case c4 => omega
              case c5 => simp; omega
              intro v' w2 hown' hgrow' _
              obtain ⟨gg, cap, hv'⟩ := ownsRow_succ hown'
              have HV' : Hid (∃ gg cap, v' = .slice (some ⟨gg, 0, none⟩) (cpN f (r * 4 + c) + 1) cap) := ⟨gg, cap, hv'⟩
              have HB2 : Hid (Below w.heap.size w w2) := ((hb.out).alloc hsz _).grown hgrow' (by simp; omega) (fun j hj => by have := (ho0.lt j hj).1; omega)
              have K2 := (k1.alloc (.cells #[.int .i64 r, .int .i64 c] 26)).grown hgrow' (fun e => by have := (ho0.lt _ e.symm).1; omega)
              have HO : Hid (OwnsCells w2 (w.heap.size + 1) v' (cpN f (r * 4 + c) + 1) (cpL f (r * 4 + c) ++ [(r : Int), (c : Int)])) := by
                show OwnsCells _ _ _ _ _
                unfold OwnsCells
                rw [List.map_append]
                exact hown'
              clear hown' hgrow' ho0 hv' k1
              go_wp2_with fail
              go_roundg h
              case rel => exact ⟨c + 1, _, by omega, by omega, by go_num, rfl, by rw [show r * 4 + (c + 1) = r * 4 + c + 1 by omega, Y2.out]; exact HV'.out, by rw [show r * 4 + (c + 1) = r * 4 + c + 1 by omega, Y1.out, Y2.out, HQ.out.1, HQ.out.2]; exact HO.out, K2, HB2⟩
              case measure => omega
            | false =>
              obtain ⟨y1, y2⟩ := cp_no (HX.out.trans hq)
              have Y1 := Lib.hid y1
              have Y2 := Lib.hid y2
              clear y1 y2 hq
              go_wp2_with fail
              go_roundg h
              case rel => exact ⟨c + 1, _, by omega, by omega, by go_num, rfl, by rw [show r * 4 + (c + 1) = r * 4 + c + 1 by omega, Y2.out]; exact hv, by rw [show r * 4 + (c + 1) = r * 4 + c + 1 by omega, Y1.out, Y2.out]; exact ho, k1, hb⟩
              case measure => omega
  · obtain ⟨y1, y2⟩ := cpR_no hV
    rw [y1, y2, vdO_no hV]
    go_enter Try.func54, Try.ntmps54
    go_wp2_with ((with_reducible show wpList _ _ _ (Oper.mk _ (Op.load 29 _) _ _ _ _ :: _) _ _); refine loadB (K1) rfl rfl rfl ?_)
    refine (l2Board_no _ _ hV).mono ?_
    rintro e w1 ⟨rfl, hb⟩
    have HB : Hid (Below w.heap.size w w1) := HB.out.trans (hb.mono HB.out.size)
    have HO : Hid (OwnsCells w1 w.heap.size (.slice (some ⟨w.heap.size + 1, 0, none⟩) 0 0) 0 []) := ownsRow_wide (owns_below HO hb) (by omega)
    clear hb hV y1 y2 K1
    go_wp2_with fail
    go_ret2
    exact ⟨_, _, rfl, HO.out, HB.out⟩
end Go.Proofs.Ytknjmkapabjolaa
