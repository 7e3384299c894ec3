/-
  The contracts of MustMerge and CanMerge in the program, for every board and every direction.
-/
import Derived.Test.YtphkidkkcknnmaaViewNat
import Derived.Test.YtphkidkkcknnmaaImplMark
import Derived.Test.YtphkidkkcknnmaaImplWays
namespace Go.Proofs.Ytphkidkkcknnmaa.Plain
/-- The marks of the first i lines, as the view has them. -/
def mkV (mf : List (List Int) → Nat → Bool) (R : Nat → List (List Int)) (i : Nat) : Nat → Int := fun j => if j / 4 < i then mI (mf (R (j / 4)) (j % 4)) else 0
theorem mkV_zero (mf : List (List Int) → Nat → Bool) (R : Nat → List (List Int)) (j : Nat) : mkV mf R 0 j = 0 := by unfold mkV; rw [if_neg (by omega)]
theorem mkV_step (mf : List (List Int) → Nat → Bool) (R : Nat → List (List Int)) (i : Nat) (j : Nat) : patch (mkV mf R i) (i * 4) 4 (fun p => mI (mf (R i) p)) j = mkV mf R (i + 1) j := by
  unfold patch mkV
  by_cases h : i * 4 ≤ j ∧ j < i * 4 + 4
  · rw [if_pos h, if_pos (by omega), show j / 4 = i by omega, show j % 4 = j - i * 4 by omega]
  · rw [if_neg h]
    by_cases q : j / 4 < i
    · rw [if_pos q, if_pos (by omega)]
    · rw [if_neg q, if_neg (by omega)]
theorem mkV_back (mf : List (List Int) → Nat → Bool) (f : Nat → Int) (k : Nat) {j : Nat} (hj : j < 16) : backF (mkV mf (lnR f k) 4) k j = mI (mf (lnR f k (lineOf k j)) (placeOf k j)) := by
  have h1 := lineOf_lt (d := k) hj
  have h2 := placeOf_lt (d := k) hj
  unfold backF mkV
  rw [if_pos (by omega), show (lineOf k j * 4 + placeOf k j) / 4 = lineOf k j by omega, show (lineOf k j * 4 + placeOf k j) % 4 = placeOf k j by omega]
end Go.Proofs.Ytphkidkkcknnmaa.Plain
namespace Go.Proofs.Ytphkidkkcknnmaa
open Go.RowKit Plain
attribute [local go_sem] store_new
set_option linter.unusedVariables false
set_option linter.unusedSimpArgs false

set_option maxHeartbeats 4000000 in
set_option maxRecDepth 20000 in
theorem markedCells_ok (m : Nat) (mf : List (List Int) → Nat → Bool) (f : Nat → Int) (k : Nat) (w : World) (hV : Vd f) (hk : k < 4) (h0 : cbR f (k : Int) ≠ 0)
    (hen : ∀ args W, (callFunc m args).run Try.prog W = .ok (.enter m args) W)
    (hm : ∀ i g0 c0 W, i < 4 → CAt W g0 ((lnR f k i).length * 4) (flatF (lnR f k i)) → Calls Try.prog m #[.agg (mk 4 (lineF f k i)), .slice (some ⟨g0, 0, none⟩) (lnR f k i).length c0] W fun e w' => e = .returned (.agg (mk 4 fun p => mI (mf (lnR f k i) p))) ∧ Below W.heap.size W w') :
    Calls Try.prog 72 #[.agg (mk 16 f), .int .i64 (k : Int), .func (.func m) #[] #[]] w fun e w' => ∃ g cap, e = .returned (.tuple #[.slice (some ⟨g, 0, none⟩) (ceN (fun j => mf (lnR f k (lineOf k j)) (placeOf k j)) 16) cap, .bool true]) ∧
      OwnsCells w' w.heap.size (.slice (some ⟨g, 0, none⟩) (ceN (fun j => mf (lnR f k (lineOf k j)) (placeOf k j)) 16) cap) (ceN (fun j => mf (lnR f k (lineOf k j)) (placeOf k j)) 16) (ceL (fun j => mf (lnR f k (lineOf k j)) (placeOf k j)) 16) ∧ Below w.heap.size w w' := by
  obtain ⟨i0, hi, hz0, hz1, hz2⟩ := info_parts infoCell
  have z16 := zero16
  have z4 := zero4
  have HC := Lib.hid (fun W => implCountB_any f (k : Int) W)
  rw [(slide_yes ⟨hV, by omega, by omega⟩ : slideRO f (k : Int) = true ∧ _).1] at HC
  have q0 : (cbR f (k : Int) == 0) = false := by simpa using h0
  have HBK : Hid (∀ j, j < 16 → backF (mkV mf (lnR f k) 4) k j = mI (mf (lnR f k (lineOf k j)) (placeOf k j))) := fun j hj => mkV_back mf f k hj
  have HST := Lib.hid (mkV_step mf (lnR f k))
  have HM := Lib.hid hm
  have HV := Lib.hid hV
  have HK := Lib.hid hk
  generalize hO : (fun j => mf (lnR f k (lineOf k j)) (placeOf k j)) = O at *
  have HBK : Hid (∀ j, j < 16 → backF (mkV mf (lnR f k) 4) k j = mI (O j)) := fun j hj => by rw [← hO]; exact HBK.out j hj
  clear hO hm hV hk h0
  generalize cbR f (k : Int) = cc at *
  have K1 := Blk.new w 16 f 28
  have HB := Lib.hid ((Below.refl w.heap.size w).alloc (Nat.le_refl _) (.cells (mk 16 f) 28))
  go_enter Try.func72, Try.ntmps72
  go_wp2_with ((with_reducible show wpList _ _ _ (Oper.mk _ (Op.load 28 _) _ _ _ _ :: _) _ _); refine loadB (K1) rfl rfl rfl ?_)
  refine (HC.out _).mono ?_
  rintro e w1 ⟨rfl, hb⟩
  have K1 := K1.below hb K1.lt
  have HB : Hid (Below w.heap.size w w1) := HB.out.trans (hb.mono HB.out.size)
  clear hb
  go_wp2_with fail
  refine (views_any _).mono ?_
  rintro e w2 ⟨rfl, hb⟩
  have K1 := K1.below hb K1.lt
  have HB : Hid (Below w.heap.size w w2) := HB.out.trans (hb.mono HB.out.size)
  clear hb
  have iV := fun W => idxV_nat k HK.out W
  have iB := fieldB0
  have sr := World.setRow_alloc_new
  have V2 := viewTwo (vwF k) (vwB k)
  have eF := vwF_enters k HK.out
  go_wp2_with (first | ((with_reducible show wpList _ _ _ (Oper.mk _ (Op.store 88 _ _) _ _ _ _ :: _) _ _); refine wpList_store_row rfl 88 _ _ rfl _ _ rfl rfl _ _ (heap_alloc_new _ _) sizeVw rfl V2 ?_) | ((with_reducible show wpList _ _ _ (Oper.mk _ (Op.load 28 _) _ _ _ _ :: _) _ _); refine loadB (K1.alloc _) rfl rfl rfl ?_))
  refine (there_nat f k _ HK.out).mono ?_
  rintro e w3 ⟨rfl, hb⟩
  have hz : w.heap.size < w2.heap.size := K1.lt
  have hz3 : w2.heap.size < w3.heap.size := by have := hb.size; simp at this; omega
  have K1 := (K1.alloc (.cells #[.func (.func (vwF k)) #[] #[], .func (.func (vwB k)) #[] #[]] 88)).below hb (by simp; omega)
  have K10 : Oth w3 w2.heap.size #[.func (.func (vwF k)) #[] #[], .func (.func (vwB k)) #[] #[]] 88 := Oth.below (heap_alloc_new w2 _) hb (by simp)
  have HB : Hid (Below w.heap.size w w3) := (HB.out.alloc HB.out.size _).trans (hb.mono (by simp; omega))
  clear hb iV sr V2 eF
  have K1 := (K1.alloc (.cells (mk 16 (viewF f k)) 23)).alloc (.cells (mk 16 fun _ => 0) 28)
  have K10 := (K10.alloc (.cells (mk 16 (viewF f k)) 23)).alloc (.cells (mk 16 fun _ => 0) 28)
  have K11 := (Blk.new w3 16 (viewF f k) 23).alloc (.cells (mk 16 fun _ => 0) 28)
  have K12 := Blk.new (w3.alloc (.cells (mk 16 (viewF f k)) 23)) 16 (fun _ => 0) 28
  have HB : Hid (Below w.heap.size w ((w3.alloc (.cells (mk 16 (viewF f k)) 23)).alloc (.cells (mk 16 fun _ => 0) 28))) := (HB.out.alloc HB.out.size _).alloc (by have := HB.out.size; simp; omega) _
  simp only [World.size_alloc] at K12
  go_wp2_with ((with_reducible show wpList _ _ _ (Oper.mk _ (Op.load 28 _) _ _ _ _ :: _) _ _); refine loadB (K1) rfl rfl rfl ?_)
  clear iB
  generalize (w3.alloc (.cells (mk 16 (viewF f k)) 23)).alloc (.cells (mk 16 fun _ => 0) 28) = w4 at *
  refine (linesBefore_any f k _ HV.out HK.out).mono ?_
  rintro e w5 ⟨v, rfl, hl, hb⟩
  have h45 := hb.size
  have hl4 := K12.lt
  have K10 := K10.below hb K10.lt
  have K11 := K11.below hb K11.lt
  have K12 := K12.below hb K12.lt
  have HL := Lib.hid hl
  have HB : Hid (Below w.heap.size w w5) := HB.out.trans (hb.mono HB.out.size)
  clear hb hl K1
  generalize w2.heap.size = b10 at *
  generalize w3.heap.size = b11 at *
  go_wp2_with fail
  go_loopg [45] 4 (fun gk s45 wr => ∃ i : Nat, i + gk = 4 ∧ s45 = .int .i64 i ∧ Oth wr b10 #[.func (.func (vwF k)) #[] #[], .func (.func (vwB k)) #[] #[]] 88 ∧ Blk wr b11 16 (viewF f k) 23 ∧ Blk wr (b11 + 1) 16 (mkV mf (lnR f k) i) 28 ∧ Hid (LinesB wr w4.heap.size f k 4 v) ∧ Hid (Below w.heap.size w wr))
  case atStart => exact ⟨0, by omega, rfl, K10, K11, K12.congr fun j _ => (mkV_zero mf _ j).symm, HL, HB⟩
  case round =>
    clear K10 K11 K12 HL HB
    obtain ⟨i, hig, rfl, K10, K11, K12, HL, HB⟩ := hrel
    cases gk with
    | zero =>
      have hi4 : ¬ ((i : Int) < 4) := by omega
      obtain rfl : i = 4 := by omega
      have c10 : wr.cell? ⟨b10, 1, none⟩ = some (.func (.func (vwB k)) #[] #[]) := K10.cell 1
      have hsz := HB.out.size
      have K12s := K12.alloc (.cells #[] 63)
      have c10s : (wr.alloc (.cells #[] 63)).cell? ⟨b10, 1, none⟩ = some (.func (.func (vwB k)) #[] #[]) := (K10.alloc (.cells #[] 63)).cell 1
      have hwb : w.heap.size < wr.heap.size := by have := K12.lt; omega
      have HO : OwnsCells (wr.alloc (.cells #[] 63)) (w.heap.size + 1) (.slice (some ⟨wr.heap.size, 0, none⟩) 0 0) 0 [] :=
        World.ownsRow_made (base := w.heap.size + 1) (e := 63) (size := 2) wr #[] 0 (by omega) (by decide) rfl
      have HB : Hid (Below w.heap.size w (wr.alloc (.cells #[] 63))) := HB.out.alloc HB.out.size _
      have iB := fieldB0
      have eB := vwB_enters k HK.out
      clear hen
      go_wp2_with ((with_reducible show wpList _ _ _ (Oper.mk _ (Op.load 28 _) _ _ _ _ :: _) _ _); refine loadB (K12s) rfl rfl rfl ?_)
      refine (back_nat _ k _ HK.out).mono ?_
      rintro e w6 ⟨rfl, hb⟩
      have HO : OwnsCells w6 (w.heap.size + 1) (.slice (some ⟨wr.heap.size, 0, none⟩) 0 0) 0 [] := owns_below HO hb
      have HB : Hid (Below w.heap.size w w6) := HB.out.trans (hb.mono HB.out.size)
      have h6 : wr.heap.size < w6.heap.size := by have := hb.size; simp at this; omega
      rw [mk_congr HBK.out]
      clear hb eB K10 K11 K12 K12s c10 c10s HL HBK HST HM HC
      have iG : ∀ (r : Nat) W, r < 4 → (Instr.index 23 (.agg (mk 16 fun j => mI (O j))) (.int .i64 (r : Int))).run Try.prog W = .ok (.agg (mk 4 fun c => mI (O (r * 4 + c)))) W := fun r W hr => idxG (fun j => mI (O j)) r hr W
      have IG := Lib.hid iG
      clear iG
      go_wp2_with fail
      clear iB
      go_loopg [15, 65] 4 (fun g s15 s65 wr => ∃ (r : Nat) (u : Value), r + g = 4 ∧ s65 = .int .i64 r ∧ u = s15 ∧ (∃ gg cap, u = .slice (some ⟨gg, 0, none⟩) (ceN O (r * 4)) cap) ∧ OwnsCells wr (w.heap.size + 1) u (ceN O (r * 4)) (ceL O (r * 4)) ∧ w.heap.size < wr.heap.size ∧ Hid (Below w.heap.size w wr))
      case atStart => exact ⟨0, _, by omega, rfl, rfl, ⟨_, _, rfl⟩, HO, by omega, HB⟩
      case round =>
        clear HB HO
        obtain ⟨r, u, hrg, rfl, rfl, hv, ho, hlt, hb⟩ := hrel
        cases gk with
        | zero =>
          have hr : ¬ ((r : Int) < 4) := by omega
          obtain rfl : r = 4 := by omega
          obtain ⟨gg, cap, rfl⟩ := hv
          go_wp2_with fail
          go_ret2
          exact ⟨gg, cap, rfl, ownsRow_wide ho (by omega), hb.out⟩
        | succ g =>
          have hr4 : (r : Int) < 4 := by omega
          have hr0 : (0 : Int) ≤ (r : Int) := by omega
          have hr5 : r < 4 := by omega
          have iG := fun W => IG.out r W hr5
          have hsz := hb.out.size
          go_wp2_with ((with_reducible show wpList _ _ _ (Oper.mk _ (Op.load 22 _) _ _ _ _ :: _) _ _); refine loadR (Blk.new _ _ _ _) rfl rfl rfl ?_)
          clear iG
          go_loopg [15, 70] 4 (fun h s15 s70 wx => ∃ (c : Nat) (u : Value), c + h = 4 ∧ s70 = .int .i64 c ∧ u = s15 ∧ (∃ gg cap, u = .slice (some ⟨gg, 0, none⟩) (ceN O (r * 4 + c)) cap) ∧ OwnsCells wx (w.heap.size + 1) u (ceN O (r * 4 + c)) (ceL O (r * 4 + c)) ∧ w.heap.size < wx.heap.size ∧ Hid (Below w.heap.size w wx))
          case atStart => exact ⟨0, _, by omega, rfl, rfl, hv, World.ownsRow.alloc ho _, by simp; omega, hb.out.alloc hb.out.size _⟩
          case round =>
            clear hv ho hb hsz hlt
            obtain ⟨c, u, hch, rfl, rfl, hv, ho, hlt, hb⟩ := hrel
            cases gk with
            | zero =>
              have hc : ¬ ((c : Int) < 4) := by omega
              have HC : Hid (r * 4 + c = (r + 1) * 4) := by show _ = _; omega
              go_wp2_with fail
              go_roundg g
              case rel => exact ⟨r + 1, _, by omega, by go_num, rfl, by rw [HC.out] at hv; exact hv, by rw [HC.out] at ho; exact ho, hlt, hb⟩
              case measure => omega
            | succ q9 =>
              have hc : (c : Int) < 4 := by omega
              have hc0 : (0 : Int) ≤ (c : Int) := by omega
              have hc5 : c < 4 := by omega
              have hn := ceN_le O (r * 4 + c)
              have hn16 : ceN O (r * 4 + c) ≤ 16 := by omega
              have HQ : Hid ((r * 4 + c) / 4 = r ∧ (r * 4 + c) % 4 = c) := by show _ ∧ _; omega
              have iR : ∀ W, (Instr.index 22 (.agg (mk 4 fun c => mI (O (r * 4 + c)))) (.int .i64 (c : Int))).run Try.prog W = .ok (.int .i64 (mI (O (r * 4 + c)))) W := fun W => idxR (fun c => mI (O (r * 4 + c))) c hc5 W
              have ho0 : wr.ownsRow (w.heap.size + 1) 63 2 u (ceN O (r * 4 + c)) ((ceL O (r * 4 + c)).map (Value.int .i64)) := ho
              have hsz := hb.out.size
              clear ho
              cases ha : O (r * 4 + c) with
              | true =>
                obtain ⟨y1, y2⟩ := ce_yes ha
                have Y1 := Lib.hid y1
                have Y2 := Lib.hid y2
                rw [show mI (O (r * 4 + c)) = 1 by rw [ha]; rfl] at iR
                clear y1 y2 ha
                go_wp2_with (at_builtin; refine wpList_append_own _ rfl _ _ 42 rfl (w.heap.size + 1) 63 i0 (.agg #[.int .i64 0, .int .i64 0]) 2 16 Try.underlying42 hi hz0 hz1 hz2 rfl (by decide) _ _ _ rfl (ho0.alloc _) ⟨wr.heap.size, 0, none⟩ 1 1 [.int .i64 r, .int .i64 c] rfl rfl ?c1 ?c2 ?c3 ?c4 ?c5 ?_)
                case c1 => exact cell_two_new _ _ _ _
                case c2 => simp [Value.oneCell']
                case c3 => unfold maxLen; omega
                case c4 => omega
                case c5 => simp; omega
                intro v' w9 hown' hgrow' _
                obtain ⟨gg, cap, hv'⟩ := ownsRow_succ hown'
                have HV' : Hid (∃ gg cap, v' = .slice (some ⟨gg, 0, none⟩) (ceN O (r * 4 + c) + 1) cap) := ⟨gg, cap, hv'⟩
                have HB2 : Hid (Below w.heap.size w w9) := ((hb.out).alloc hsz _).grown hgrow' (by simp; omega) (fun j hj => by have := (ho0.lt j hj).1; omega)
                have hlt9 : w.heap.size < w9.heap.size := by have := hgrow'.size; simp at this; omega
                have HO : Hid (OwnsCells w9 (w.heap.size + 1) v' (ceN O (r * 4 + c) + 1) (ceL O (r * 4 + c) ++ [(r : Int), (c : Int)])) := by
                  show OwnsCells _ _ _ _ _
                  unfold OwnsCells
                  rw [List.map_append]
                  exact hown'
                clear hown' hgrow' ho0 hv'
                go_wp2_with fail
                go_roundg q9
                case rel => exact ⟨c + 1, _, by omega, by go_num, rfl, by rw [show r * 4 + (c + 1) = r * 4 + c + 1 by omega, Y2.out]; exact HV'.out, by rw [show r * 4 + (c + 1) = r * 4 + c + 1 by omega, Y1.out, Y2.out, HQ.out.1, HQ.out.2]; exact HO.out, hlt9, HB2⟩
                case measure => omega
              | false =>
                obtain ⟨y1, y2⟩ := ce_no ha
                have Y1 := Lib.hid y1
                have Y2 := Lib.hid y2
                rw [show mI (O (r * 4 + c)) = 0 by rw [ha]; rfl] at iR
                clear y1 y2 ha
                go_wp2_with fail
                go_roundg q9
                case rel => exact ⟨c + 1, _, by omega, by go_num, rfl, by rw [show r * 4 + (c + 1) = r * 4 + c + 1 by omega, Y2.out]; exact hv, by rw [show r * 4 + (c + 1) = r * 4 + c + 1 by omega, Y1.out, Y2.out]; exact ho0, hlt, hb⟩
                case measure => omega
    | succ q9 =>
      have hi4 : (i : Int) < 4 := by omega
      have hi0 : (0 : Int) ≤ (i : Int) := by omega
      have hi9 : i < 4 := by omega
      obtain ⟨gl, cl0, hv, hgl, hcx⟩ := HL.out i hi9
      have iL := fun W => idxLists v i hi9 W
      rw [hv] at iL
      have HCX := Lib.hid hcx
      have hsz := HB.out.size
      clear hv hcx
      have hlp : ∀ {ops : Array Oper} {rest : List Oper} {o : Oper} {a : Act} {W : World} {Q : Exit → Act → World → Prop} {x : Operand}, Blk W b11 16 (viewF f k) 23 → o.guard = none → o.op = .load 22 x → a.eval x = .pointer (some ⟨b11, i * 4, none⟩) →
          wpList Try.prog ops Q rest (a.put o.dst (.agg (mk 4 (lineF f k i)))) W → wpList Try.prog ops Q (o :: rest) a W := fun hg hgd ho hx hh => loadPR hg (by omega) hgd ho hx (by rw [view_mk f k hi9]; exact hh)
      go_wp2_with ((with_reducible show wpList _ _ _ (Oper.mk _ (Op.load 22 _) _ _ _ _ :: _) _ _); refine hlp K11 rfl rfl rfl ?_)
      refine (HM.out i gl cl0 _ hi9 HCX.out).mono ?_
      rintro e w6 ⟨rfl, hb⟩
      have h12 := K12.lt
      have K10 := K10.below hb K10.lt
      have K11 := K11.below hb K11.lt
      have K12 := K12.below hb K12.lt
      have HL : Hid (LinesB w6 w4.heap.size f k 4 v) := HL.out.below hb
      have HB : Hid (Below w.heap.size w w6) := HB.out.trans (hb.mono HB.out.size)
      have HS := Lib.hid (HST.out i)
      clear hb iL hlp HCX
      go_wp2_with ((with_reducible show wpList _ _ _ (Oper.mk _ (Op.store 22 _ _) _ _ _ _ :: _) _ _); refine storePR (K12) (by omega) rfl rfl rfl rfl ?_)
      go_roundg q9
      case rel => exact ⟨i + 1, by omega, by go_num, K10.rowOther _ _ (by omega), K11.rowOther _ _ (by omega), (K12.row 16 _).congr fun j _ => HS.out j, HL.out.rowOther _ _ (by omega), below_setRow HB.out (by omega) _⟩
      case measure => omega

set_option maxHeartbeats 1000000 in
theorem markedCells_no (m : Nat) (f : Nat → Int) (d : Int) (w : World) (h : ¬ MbOk f d) :
    Calls Try.prog 72 #[.agg (mk 16 f), .int .i64 d, .func (.func m) #[] #[]] w fun e w' => ∃ g cap, e = .returned (.tuple #[.slice (some ⟨g, 0, none⟩) 0 cap, .bool false]) ∧
      OwnsCells w' w.heap.size (.slice (some ⟨g, 0, none⟩) 0 cap) 0 [] ∧ Below w.heap.size w w' := by
  have K1 := Blk.new w 16 f 28
  have HB := Lib.hid ((Below.refl w.heap.size w).alloc (Nat.le_refl _) (.cells (mk 16 f) 28))
  have HC := Lib.hid (fun W => implCountB_any f d W)
  by_cases hS : SlideOk f d
  · have h0 : cbR f d = 0 := by
      by_cases h0 : cbR f d = 0
      · exact h0
      · exact absurd ⟨hS, h0⟩ h
    rw [h0, (slide_yes hS).1] at HC
    clear h0 hS h
    go_enter Try.func72, Try.ntmps72
    go_wp2_with ((with_reducible show wpList _ _ _ (Oper.mk _ (Op.load 28 _) _ _ _ _ :: _) _ _); refine loadB (K1) rfl rfl rfl ?_)
    refine (HC.out _).mono ?_
    rintro e w1 ⟨rfl, hb⟩
    have HB : Hid (Below w.heap.size w w1) := HB.out.trans (hb.mono HB.out.size)
    clear hb
    have HO := Lib.hid (World.ownsRow_made (base := w.heap.size) (e := 63) (size := 2) w1 #[] 0 HB.out.size (by decide) rfl)
    have HB2 : Hid (Below w.heap.size w (w1.alloc (.cells #[] 63))) := HB.out.alloc HB.out.size _
    go_wp2_with fail
    go_ret2
    exact ⟨_, _, rfl, HO.out, HB2.out⟩
  · rw [cbR_no hS, (slide_no hS).1] at HC
    clear hS h
    go_enter Try.func72, Try.ntmps72
    go_wp2_with ((with_reducible show wpList _ _ _ (Oper.mk _ (Op.load 28 _) _ _ _ _ :: _) _ _); refine loadB (K1) rfl rfl rfl ?_)
    refine (HC.out _).mono ?_
    rintro e w1 ⟨rfl, hb⟩
    have HB : Hid (Below w.heap.size w w1) := HB.out.trans (hb.mono HB.out.size)
    clear hb
    have HO := Lib.hid (World.ownsRow_made (base := w.heap.size) (e := 63) (size := 2) w1 #[] 0 HB.out.size (by decide) rfl)
    have HB2 : Hid (Below w.heap.size w (w1.alloc (.cells #[] 63))) := HB.out.alloc HB.out.size _
    go_wp2_with fail
    go_ret2
    exact ⟨_, _, rfl, HO.out, HB2.out⟩
theorem mkMustMerge_eq (f : Nat → Int) (k : Nat) : (fun j => alM (lnR f k (lineOf k j)) (placeOf k j)) = mkC false f k := by funext j; simp [mkC]
set_option maxHeartbeats 400000 in
theorem implMustMerge_any (f : Nat → Int) (d : Int) (w : World) :
    Calls Try.prog 35 #[.agg (mk 16 f), .int .i64 d] w fun e w' => ∃ g cap, e = .returned (.tuple #[.slice (some ⟨g, 0, none⟩) (mmN false f d) cap, .bool (mbO f d)]) ∧
      OwnsCells w' w.heap.size (.slice (some ⟨g, 0, none⟩) (mmN false f d) cap) (mmN false f d) (mmL false f d) ∧ Below w.heap.size w w' := by
  have HMC : Hid (∀ W, Calls Try.prog 72 #[.agg (mk 16 f), .int .i64 d, .func (.func 73) #[] #[]] W fun e w' => ∃ g cap, e = .returned (.tuple #[.slice (some ⟨g, 0, none⟩) (mmN false f d) cap, .bool (mbO f d)]) ∧
      OwnsCells w' W.heap.size (.slice (some ⟨g, 0, none⟩) (mmN false f d) cap) (mmN false f d) (mmL false f d) ∧ Below W.heap.size W w') := by
    intro W
    by_cases h : MbOk f d
    · obtain ⟨⟨hV, hd⟩, h0⟩ := id h
      obtain ⟨k, rfl⟩ := Int.eq_ofNat_of_zero_le hd.1
      obtain ⟨y1, y2⟩ := mm_yes false h
      rw [(mb_yes h).1, y1, y2, Int.toNat_natCast, ← mkMustMerge_eq]
      exact markedCells_ok 73 alM f k W hV (by omega) h0 (Go.Proofs.enters_of Try.func73 (by kernel_rfl) rfl) fun i g0 c0 W hi hc => markMust_any f k i g0 c0 W hV hi hc
    · obtain ⟨y1, y2⟩ := mm_no false h
      rw [(mb_no h).1, y1, y2]
      exact markedCells_no _ f d W h
  have K1 := Blk.new w 16 f 28
  have HB := Lib.hid ((Below.refl w.heap.size w).alloc (Nat.le_refl _) (.cells (mk 16 f) 28))
  generalize mmN false f d = N at *
  generalize mmL false f d = L at *
  generalize mbO f d = O at *
  go_enter Try.func35, Try.ntmps35
  go_wp2_with ((with_reducible show wpList _ _ _ (Oper.mk _ (Op.load 28 _) _ _ _ _ :: _) _ _); refine loadB (K1) rfl rfl rfl ?_)
  refine (HMC.out _).mono ?_
  rintro e w3 ⟨g, cap, rfl, ho, hb⟩
  have HO := Lib.hid (ownsRow_wide ho HB.out.size)
  have HB : Hid (Below w.heap.size w w3) := HB.out.trans (hb.mono HB.out.size)
  clear ho hb
  go_wp2_with fail
  go_ret2
  exact ⟨g, cap, rfl, HO.out, HB.out⟩
theorem mkCanMerge_eq (f : Nat → Int) (k : Nat) : (fun j => anM (lnR f k (lineOf k j)) (placeOf k j)) = mkC true f k := by funext j; simp [mkC]
set_option maxHeartbeats 400000 in
theorem implCanMerge_any (f : Nat → Int) (d : Int) (w : World) :
    Calls Try.prog 37 #[.agg (mk 16 f), .int .i64 d] w fun e w' => ∃ g cap, e = .returned (.tuple #[.slice (some ⟨g, 0, none⟩) (mmN true f d) cap, .bool (mbO f d)]) ∧
      OwnsCells w' w.heap.size (.slice (some ⟨g, 0, none⟩) (mmN true f d) cap) (mmN true f d) (mmL true f d) ∧ Below w.heap.size w w' := by
  have HMC : Hid (∀ W, Calls Try.prog 72 #[.agg (mk 16 f), .int .i64 d, .func (.func 74) #[] #[]] W fun e w' => ∃ g cap, e = .returned (.tuple #[.slice (some ⟨g, 0, none⟩) (mmN true f d) cap, .bool (mbO f d)]) ∧
      OwnsCells w' W.heap.size (.slice (some ⟨g, 0, none⟩) (mmN true f d) cap) (mmN true f d) (mmL true f d) ∧ Below W.heap.size W w') := by
    intro W
    by_cases h : MbOk f d
    · obtain ⟨⟨hV, hd⟩, h0⟩ := id h
      obtain ⟨k, rfl⟩ := Int.eq_ofNat_of_zero_le hd.1
      obtain ⟨y1, y2⟩ := mm_yes true h
      rw [(mb_yes h).1, y1, y2, Int.toNat_natCast, ← mkCanMerge_eq]
      exact markedCells_ok 74 anM f k W hV (by omega) h0 (Go.Proofs.enters_of Try.func74 (by kernel_rfl) rfl) fun i g0 c0 W hi hc => markCan_any f k i g0 c0 W hV hi hc
    · obtain ⟨y1, y2⟩ := mm_no true h
      rw [(mb_no h).1, y1, y2]
      exact markedCells_no _ f d W h
  have K1 := Blk.new w 16 f 28
  have HB := Lib.hid ((Below.refl w.heap.size w).alloc (Nat.le_refl _) (.cells (mk 16 f) 28))
  generalize mmN true f d = N at *
  generalize mmL true f d = L at *
  generalize mbO f d = O at *
  go_enter Try.func37, Try.ntmps37
  go_wp2_with ((with_reducible show wpList _ _ _ (Oper.mk _ (Op.load 28 _) _ _ _ _ :: _) _ _); refine loadB (K1) rfl rfl rfl ?_)
  refine (HMC.out _).mono ?_
  rintro e w3 ⟨g, cap, rfl, ho, hb⟩
  have HO := Lib.hid (ownsRow_wide ho HB.out.size)
  have HB : Hid (Below w.heap.size w w3) := HB.out.trans (hb.mono HB.out.size)
  clear ho hb
  go_wp2_with fail
  go_ret2
  exact ⟨g, cap, rfl, HO.out, HB.out⟩
end Go.Proofs.Ytphkidkkcknnmaa
