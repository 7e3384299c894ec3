/-
  The contracts of ArisesBy, in the reference and in the program, for every board.
-/
import Derived.Test.YtmcmpedmgibmkabGreatImplWays
import Derived.Test.YtmcmpedmgibmkabGreatImplTake
namespace Go.Proofs.YtmcmpedmgibmkabGreat.Plain
/-- What ArisesBy returns. -/
noncomputable def arRL (f : Nat → Int) : List Int := if Vd f then ceL (arO f) 16 else []
noncomputable def arRN (f : Nat → Int) : Nat := if Vd f then ceN (arO f) 16 else 0
theorem ar_vd {f : Nat → Int} (h : Vd f) : arRL f = ceL (arO f) 16 ∧ arRN f = ceN (arO f) 16 := by simp [arRL, arRN, h]
theorem ar_nv {f : Nat → Int} (h : ¬ Vd f) : arRL f = [] ∧ arRN f = 0 := by simp [arRL, arRN, h]
theorem arR_len (f : Nat → Int) : (arRL f).length = arRN f * 2 := by
  unfold arRL arRN; split
  · exact ce_len _ 16
  · rfl
theorem arRN_le (f : Nat → Int) : arRN f ≤ 16 := by
  unfold arRN; split
  · exact ceN_le _ 16
  · omega
end Go.Proofs.YtmcmpedmgibmkabGreat.Plain
namespace Go.Proofs.YtmcmpedmgibmkabGreat
open Go.RowKit Plain
attribute [local go_sem] store_new
set_option linter.unusedVariables false
set_option linter.unusedSimpArgs false

theorem isNew_yes (t : Int) (w : World) (h0 : 1 ≤ t) (h1 : t ≤ 2) : Calls Tryz.prog 47 #[.int .i64 t] w fun e w' => e = .returned (.bool true) ∧ w = w' := by
  go_enter Tryz.func47, Tryz.ntmps47
  go_wp2
  go_ret
  exact ⟨rfl, rfl⟩
theorem isNew_no (t : Int) (w : World) (h : t < 1 ∨ 2 < t) : Calls Tryz.prog 47 #[.int .i64 t] w fun e w' => e = .returned (.bool false) ∧ w = w' := by
  by_cases h0 : 1 ≤ t
  · have h1 : 2 < t := by omega
    go_enter Tryz.func47, Tryz.ntmps47
    go_wp2
    go_ret
    simp
    try omega
  · go_enter Tryz.func47, Tryz.ntmps47
    go_wp2
    go_ret
    simp
    try omega

set_option maxHeartbeats 400000 in
theorem isMadeWithout_any (f : Nat → Int) (r c : Nat) (w : World) (hV : Vd f) (hr : r < 4) (hc : c < 4) (h0 : f (r * 4 + c) ≠ 0) :
    Calls Tryz.prog 48 #[.agg (mk 16 f), .agg #[.int .i64 r, .int .i64 c]] w fun e w' => e = .returned (.bool (mdR (upd f (r * 4 + c) 0))) ∧ Below w.heap.size w w' := by
  rw [mk_two]
  have z16 := zero16
  have hp : placeAt (two r c) = r * 4 + c := by simp [placeAt, two]
  have hT : TakeOk f (two r c) := ⟨hV, by simp [CellIn, two]; omega, by rw [hp]; exact h0⟩
  obtain ⟨y1, y2, y3⟩ := take_yes hT
  rw [hp] at y2 y3
  have HC := Lib.hid (fun W => (implTake_any f (two r c) W))
  rw [y1, y2, y3] at HC
  clear y1 y2 y3 hT hp hV
  generalize upd f (r * 4 + c) 0 = u at *
  have K1 := (Blk.new w 16 f 27).alloc (.cells (mk 2 (two r c)) 56)
  have K2 := Blk.new (w.alloc (.cells (mk 16 f) 27)) 2 (two r c) 56
  have HB := Lib.hid (((Below.refl w.heap.size w).alloc (Nat.le_refl _) (.cells (mk 16 f) 27)).alloc (by simp) (.cells (mk 2 (two r c)) 56))
  simp only [World.size_alloc] at K2
  go_enter Tryz.func48, Tryz.ntmps48
  go_wp2_with (first | ((with_reducible show wpList _ _ _ (Oper.mk _ (Op.load 27 _) _ _ _ _ :: _) _ _); refine loadB (K1) rfl rfl rfl ?_) | ((with_reducible show wpList _ _ _ (Oper.mk _ (Op.load 56 _) _ _ _ _ :: _) _ _); refine loadC (K2) rfl rfl rfl ?_))
  refine (HC.out _).mono ?_
  rintro e w1 ⟨rfl, hb⟩
  have K5 := Blk.new w1 16 u 27
  have HB : Hid (Below w.heap.size w w1) := HB.out.trans (hb.mono HB.out.size)
  have HB : Hid (Below w.heap.size w (w1.alloc (.cells (mk 16 u) 27))) := HB.out.alloc HB.out.size _
  clear hb K1 K2
  go_wp2_with ((with_reducible show wpList _ _ _ (Oper.mk _ (Op.load 27 _) _ _ _ _ :: _) _ _); refine loadB (K5) rfl rfl rfl ?_)
  refine (implMade_any u _).mono ?_
  rintro e w2 ⟨rfl, hb⟩
  have HB : Hid (Below w.heap.size w w2) := HB.out.trans (hb.mono HB.out.size)
  clear hb
  go_wp2_with fail
  go_ret
  exact ⟨rfl, HB.out⟩

set_option maxHeartbeats 4000000 in
set_option maxRecDepth 20000 in
theorem specArises_any (f : Nat → Int) (w : World) :
    Calls Tryz.prog 20 #[.agg (mk 16 f)] w fun e w' => ∃ g cap, e = .returned (.tuple #[.slice (some ⟨g, 0, none⟩) (arRN f) cap, .bool (vdO f)]) ∧
      OwnsCells w' w.heap.size (.slice (some ⟨g, 0, none⟩) (arRN f) cap) (arRN f) (arRL f) ∧ Below w.heap.size w w' := by
  obtain ⟨i0, hi, hz0, hz1, hz2⟩ := info_parts infoCell
  have z2 := zero2
  have K1 := (Blk.new w 16 f 27).alloc (.cells #[] 56)
  have HB := Lib.hid (((Below.refl w.heap.size w).alloc (Nat.le_refl _) (.cells (mk 16 f) 27)).alloc (by simp) (.cells #[] 56))
  have HO : OwnsCells ((w.alloc (.cells (mk 16 f) 27)).alloc (.cells #[] 56)) (w.heap.size + 1) (.slice (some ⟨w.heap.size + 1, 0, none⟩) 0 0) 0 [] := by
    have := World.ownsRow_made (base := w.heap.size + 1) (e := 56) (size := 2) (w.alloc (.cells (mk 16 f) 27)) #[] 0 (by simp) (by decide) rfl
    simp only [World.size_alloc] at this
    exact this
  by_cases hV : Vd f
  · obtain ⟨y1, y2⟩ := ar_vd hV
    rw [y1, y2, vdO_yes hV]
    have HV := Lib.hid hV
    clear hV y1 y2
    go_enter Tryz.func20, Tryz.ntmps20
    go_wp2_with ((with_reducible show wpList _ _ _ (Oper.mk _ (Op.load 27 _) _ _ _ _ :: _) _ _); refine loadB (K1) rfl rfl rfl ?_)
    refine (l2Board_yes _ _ HV.out).mono ?_
    rintro e w1 ⟨rfl, hb⟩
    have K1 := K1.below hb K1.lt
    have HO : OwnsCells w1 (w.heap.size + 1) (.slice (some ⟨w.heap.size + 1, 0, none⟩) 0 0) 0 [] := owns_below HO hb
    have HB : Hid (Below w.heap.size w w1) := HB.out.trans (hb.mono HB.out.size)
    clear hb
    go_wp2_with fail
    go_loopg [4, 5] 4 (fun g s4 s5 wr => ∃ (r : Nat) (v : Value), r + g = 4 ∧ s5 = .int .i64 r ∧ v = s4 ∧ (∃ gg cap, v = .slice (some ⟨gg, 0, none⟩) (ceN (arO f) (r * 4)) cap) ∧ OwnsCells wr (w.heap.size + 1) v (ceN (arO f) (r * 4)) (ceL (arO f) (r * 4)) ∧ Blk wr w.heap.size 16 f 27 ∧ Hid (Below w.heap.size w wr))
    case atStart => exact ⟨0, _, by omega, rfl, rfl, ⟨_, _, rfl⟩, HO, K1, HB⟩
    case round =>
      clear K1 HB HO
      obtain ⟨r, v, hrg, rfl, rfl, hv, ho, k1, hb⟩ := hrel
      cases gk with
      | zero =>
        have hr : ¬ ((r : Int) < 4) := by omega
        obtain rfl : r = 4 := by omega
        clear hrg hr
        obtain ⟨gg, cap, rfl⟩ := hv
        go_wp2_with fail
        go_ret2
        exact ⟨gg, cap, rfl, ownsRow_wide ho (by omega), hb.out⟩
      | succ g =>
        have hr4 : (r : Int) < 4 := by omega
        have hr5 : r < 4 := by omega
        go_wp2_with fail
        go_loopg [4, 6] 4 (fun h s4 s6 wx => ∃ (c : Nat) (v : Value), c + h = 4 ∧ s6 = .int .i64 c ∧ v = s4 ∧ (∃ gg cap, v = .slice (some ⟨gg, 0, none⟩) (ceN (arO f) (r * 4 + c)) cap) ∧ OwnsCells wx (w.heap.size + 1) v (ceN (arO f) (r * 4 + c)) (ceL (arO f) (r * 4 + c)) ∧ Blk wx w.heap.size 16 f 27 ∧ Hid (Below w.heap.size w wx))
        case atStart => exact ⟨0, _, by omega, rfl, rfl, hv, ho, k1, hb⟩
        case round =>
          clear hv ho k1 hb
          obtain ⟨c, v, hch, rfl, rfl, hv, ho, k1, hb⟩ := hrel
          cases gk with
          | zero =>
            have hc : ¬ ((c : Int) < 4) := by omega
            have HC : Hid (r * 4 + c = (r + 1) * 4) := by show _ = _; omega
            go_wp2_with fail
            go_roundg g
            case rel => exact ⟨r + 1, _, by omega, by go_num, rfl, by rw [HC.out] at hv; exact hv, by rw [HC.out] at ho; exact ho, k1, hb⟩
            case measure => omega
          | succ q9 =>
            have hc : (c : Int) < 4 := by omega
            have hc5 : c < 4 := by omega
            have hn := ceN_le (arO f) (r * 4 + c)
            have hn16 : ceN (arO f) (r * 4 + c) ≤ 16 := by omega
            have HQ : Hid ((r * 4 + c) / 4 = r ∧ (r * 4 + c) % 4 = c) := by show _ ∧ _; omega
            have K7 := Blk.new wr 2 (fun _ => 0) 56
            have hlt := k1.lt
            have k1s := (k1.alloc (.cells (mk 2 fun _ => 0) 56)).rowOther wr.heap.size (mk 2 (two r c)) (by omega)
            have k7s := K7.row 2 (two r c)
            have hsz := hb.out.size
            have hbs : Hid (Below w.heap.size w ((wr.alloc (.cells (mk 2 fun _ => 0) 56)).setRow wr.heap.size (mk 2 (two r c)))) := below_setRow (hb.out.alloc hsz _) hsz _
            have ho0 : ((wr.alloc (.cells (mk 2 fun _ => 0) 56)).setRow wr.heap.size (mk 2 (two r c))).ownsRow (w.heap.size + 1) 56 2 v (ceN (arO f) (r * 4 + c)) ((ceL (arO f) (r * 4 + c)).map (Value.int .i64)) := by
              have h1 : (wr.alloc (.cells (mk 2 fun _ => 0) 56)).ownsRow (w.heap.size + 1) 56 2 v (ceN (arO f) (r * 4 + c)) ((ceL (arO f) (r * 4 + c)).map (Value.int .i64)) := World.ownsRow.alloc ho _
              have h2 : Below (wr.heap.size) (wr.alloc (.cells (mk 2 fun _ => 0) 56)) ((wr.alloc (.cells (mk 2 fun _ => 0) 56)).setRow wr.heap.size (mk 2 (two r c))) := below_setRow (Below.refl _ _) (Nat.le_refl _) _
              refine h1.kept (row := some wr.heap.size) ⟨h2.os, h2.tape, h2.output, h2.size, fun k hk hne => setRow_other _ _ _ _ (fun e => hne (by rw [e]))⟩ ?_
              exact Or.inr fun e => absurd (ho.lt _ e).2 (by omega)
            clear ho hb
            go_wp2_with (first | ((with_reducible show wpList _ _ _ (Oper.mk _ (Op.store 56 _ _) _ _ _ _ :: _) _ _); refine storeC (g := two _ _) (K7) rfl rfl rfl rfl ?_) | ((with_reducible show wpList _ _ _ (Oper.mk _ (Op.load 27 _) _ _ _ _ :: _) _ _); refine loadB (k1s) rfl rfl rfl ?_) | ((with_reducible show wpList _ _ _ (Oper.mk _ (Op.load 56 _) _ _ _ _ :: _) _ _); refine loadC (k7s) rfl rfl rfl ?_))
            refine (l2At_any _ (two r c) r c _ rfl rfl hr5 hc5).mono ?_
            rintro e w3 ⟨rfl, hb3⟩
            have k1 := k1s.below hb3 k1s.lt
            have k7 := k7s.below hb3 k7s.lt
            have ho0 : w3.ownsRow (w.heap.size + 1) 56 2 v (ceN (arO f) (r * 4 + c)) ((ceL (arO f) (r * 4 + c)).map (Value.int .i64)) := owns_below ho0 hb3
            have hb : Hid (Below w.heap.size w w3) := hbs.out.trans (hb3.mono hbs.out.size)
            have hsz := hb.out.size
            have hlt := k1.lt
            clear hb3 k1s k7s K7 hbs
            by_cases ht : 1 ≤ f (r * 4 + c) ∧ f (r * 4 + c) ≤ 2
            · have HA := Lib.hid (arO_yes ht)
              have HW := Lib.hid (upd_vd HV.out (r * 4 + c))
              go_wp2_with fail
              refine (l1In_yes _ _ _ _ ht.1 ht.2).mono ?_
              rintro e w4 ⟨rfl, rfl⟩
              clear ht
              go_wp2_with (first | ((with_reducible show wpList _ _ _ (Oper.mk _ (Op.load 27 _) _ _ _ (some _) :: _) _ _); refine loadgB (k1) rfl rfl rfl ?_) | ((with_reducible show wpList _ _ _ (Oper.mk _ (Op.load 56 _) _ _ _ (some _) :: _) _ _); refine loadgC (k7) rfl rfl rfl ?_))
              refine (l2Put_any f (two r c) r c 0 _ rfl rfl hr5 hc5).mono ?_
              rintro e w5 ⟨rfl, hb3⟩
              have k1 := k1.below hb3 k1.lt
              have k7 := k7.below hb3 k7.lt
              have ho0 : w5.ownsRow (w.heap.size + 1) 56 2 v (ceN (arO f) (r * 4 + c)) ((ceL (arO f) (r * 4 + c)).map (Value.int .i64)) := owns_below ho0 hb3
              have hb : Hid (Below w.heap.size w w5) := hb.out.trans (hb3.mono hb.out.size)
              clear hb3
              go_wp2_with fail
              refine (l6Sides_any (upd f (r * 4 + c) 0) _ HW.out).mono ?_
              rintro e w6 ⟨gs, cs, rfl, _, hb3⟩
              have k1 := k1.below hb3 k1.lt
              have k7 := k7.below hb3 k7.lt
              have ho0 : w6.ownsRow (w.heap.size + 1) 56 2 v (ceN (arO f) (r * 4 + c)) ((ceL (arO f) (r * 4 + c)).map (Value.int .i64)) := owns_below ho0 hb3
              have hb : Hid (Below w.heap.size w w6) := hb.out.trans (hb3.mono hb.out.size)
              have hsz := hb.out.size
              have hlt := k1.lt
              have hI := mdR_int (upd f (r * 4 + c) 0)
              rw [← HA.out] at hI
              clear hb3 HA HW
              generalize (siR (upd f (r * 4 + c) 0)).length = n at *
              have m2 := (mk_two (r : Int) (c : Int)).symm
              cases ha : arO f (r * 4 + c) with
              | true =>
                obtain ⟨y1, y2⟩ := ce_yes ha
                have Y1 := Lib.hid y1
                have Y2 := Lib.hid y2
                rw [ha] at hI
                have hn0 : 0 < n := of_decide_eq_true hI
                clear y1 y2 ha hI
                go_wp2_with (first | ((with_reducible show wpList _ _ _ (Oper.mk _ (Op.load 56 _) _ _ _ _ :: _) _ _); refine loadC (k7) rfl rfl rfl ?_) | (at_builtin; refine wpList_append_own _ rfl _ _ 45 rfl (w.heap.size + 1) 56 i0 (.agg #[.int .i64 0, .int .i64 0]) 2 16 Tryz.underlying45 hi hz0 hz1 hz2 rfl (by decide) _ _ _ rfl (ho0.alloc _) ⟨w6.heap.size, 0, none⟩ 1 1 [.int .i64 r, .int .i64 c] rfl rfl ?c1 ?c2 ?c3 ?c4 ?c5 ?_))
                case c1 => exact cell_two_new _ _ _ _
                case c2 => simp [Value.oneCell']
                case c3 => unfold maxLen; omega
                case c4 => omega
                case c5 => simp; omega
                intro v' w2 hown' hgrow' _
                obtain ⟨gg, cap, hv'⟩ := ownsRow_succ hown'
                have HV' : Hid (∃ gg cap, v' = .slice (some ⟨gg, 0, none⟩) (ceN (arO f) (r * 4 + c) + 1) cap) := ⟨gg, cap, hv'⟩
                have HB2 : Hid (Below w.heap.size w w2) := ((hb.out).alloc hsz _).grown hgrow' (by simp; omega) (fun j hj => by have := (ho0.lt j hj).1; omega)
                have K1 := (k1.alloc (.cells #[.int .i64 r, .int .i64 c] 56)).grown hgrow' (fun e => by have := (ho0.lt _ e.symm).1; omega)
                have HO : Hid (OwnsCells w2 (w.heap.size + 1) v' (ceN (arO f) (r * 4 + c) + 1) (ceL (arO f) (r * 4 + c) ++ [(r : Int), (c : Int)])) := by
                  show OwnsCells _ _ _ _ _
                  unfold OwnsCells
                  rw [List.map_append]
                  exact hown'
                clear hown' hgrow' ho0 hv' k1
                go_wp2_with fail
                go_roundg q9
                case rel => exact ⟨c + 1, _, by omega, by go_num, rfl, by rw [show r * 4 + (c + 1) = r * 4 + c + 1 by omega, Y2.out]; exact HV'.out, by rw [show r * 4 + (c + 1) = r * 4 + c + 1 by omega, Y1.out, Y2.out, HQ.out.1, HQ.out.2]; exact HO.out, K1, HB2⟩
                case measure => omega
              | false =>
                obtain ⟨y1, y2⟩ := ce_no ha
                have Y1 := Lib.hid y1
                have Y2 := Lib.hid y2
                rw [ha] at hI
                have hn0 : n = 0 := by have := of_decide_eq_false hI; omega
                clear y1 y2 ha hI
                subst hn0
                go_wp2_with fail
                go_roundg q9
                case rel => exact ⟨c + 1, _, by omega, by go_num, rfl, by rw [show r * 4 + (c + 1) = r * 4 + c + 1 by omega, Y2.out]; exact hv, by rw [show r * 4 + (c + 1) = r * 4 + c + 1 by omega, Y1.out, Y2.out]; exact ho0, k1, hb⟩
                case measure => omega
            · have ha : arO f (r * 4 + c) = false := arO_no ht
              obtain ⟨y1, y2⟩ := ce_no ha
              have Y1 := Lib.hid y1
              have Y2 := Lib.hid y2
              clear y1 y2 ha
              have hor : f (r * 4 + c) < 1 ∨ 2 < f (r * 4 + c) := by omega
              go_wp2_with fail
              refine (l1In_no _ _ _ _ hor).mono ?_
              rintro e w4 ⟨rfl, rfl⟩
              clear ht hor
              go_wp2_with fail
              go_roundg q9
              case rel => exact ⟨c + 1, _, by omega, by go_num, rfl, by rw [show r * 4 + (c + 1) = r * 4 + c + 1 by omega, Y2.out]; exact hv, by rw [show r * 4 + (c + 1) = r * 4 + c + 1 by omega, Y1.out, Y2.out]; exact ho0, k1, hb⟩
              case measure => omega
  · obtain ⟨y1, y2⟩ := ar_nv hV
    rw [y1, y2, vdO_no hV]
    go_enter Tryz.func20, Tryz.ntmps20
    go_wp2_with ((with_reducible show wpList _ _ _ (Oper.mk _ (Op.load 27 _) _ _ _ _ :: _) _ _); refine loadB (K1) rfl rfl rfl ?_)
    refine (l2Board_no _ _ hV).mono ?_
    rintro e w1 ⟨rfl, hb⟩
    have HO := Lib.hid (owns_below HO hb)
    have HB1 : Hid (Below w.heap.size w w1) := HB.out.trans (hb.mono HB.out.size)
    clear hb HB K1 hV y1 y2
    go_wp2_with fail
    go_ret2
    exact ⟨_, _, rfl, ownsRow_wide HO.out (by omega), HB1.out⟩

set_option maxHeartbeats 4000000 in
set_option maxRecDepth 20000 in
theorem implArises_any (f : Nat → Int) (w : World) :
    Calls Tryz.prog 19 #[.agg (mk 16 f)] w fun e w' => ∃ g cap, e = .returned (.tuple #[.slice (some ⟨g, 0, none⟩) (arRN f) cap, .bool (vdO f)]) ∧
      OwnsCells w' w.heap.size (.slice (some ⟨g, 0, none⟩) (arRN f) cap) (arRN f) (arRL f) ∧ Below w.heap.size w w' := by
  obtain ⟨i0, hi, hz0, hz1, hz2⟩ := info_parts infoCell
  have z4 := zero4
  have iG := idxG
  have K1 := Blk.new w 16 f 27
  have HB := Lib.hid ((Below.refl w.heap.size w).alloc (Nat.le_refl _) (.cells (mk 16 f) 27))
  by_cases hV : Vd f
  · obtain ⟨y1, y2⟩ := ar_vd hV
    rw [y1, y2, vdO_yes hV]
    have HVV := Lib.hid hV
    go_enter Tryz.func19, Tryz.ntmps19
    go_wp2_with ((with_reducible show wpList _ _ _ (Oper.mk _ (Op.load 27 _) _ _ _ _ :: _) _ _); refine loadB (K1) rfl rfl rfl ?_)
    refine (implBoard_yes _ _ hV).mono ?_
    rintro e w1 ⟨rfl, hb⟩
    have K1 := (K1.below hb K1.lt).alloc (.cells #[] 56)
    have HB1 : Hid (Below w.heap.size w w1) := HB.out.trans (hb.mono HB.out.size)
    have HB : Hid (Below w.heap.size w (w1.alloc (.cells #[] 56))) := HB1.out.alloc HB1.out.size _
    have HO : OwnsCells (w1.alloc (.cells #[] 56)) (w.heap.size + 1) (.slice (some ⟨w1.heap.size, 0, none⟩) 0 0) 0 [] :=
      World.ownsRow_made (base := w.heap.size + 1) (e := 56) (size := 2) w1 #[] 0 (by have := hb.size; simpa using this) (by decide) rfl
    clear hb HB1 hV y1 y2
    go_wp2_with ((with_reducible show wpList _ _ _ (Oper.mk _ (Op.load 25 _) _ _ _ _ :: _) _ _); refine loadG (K1) rfl rfl rfl ?_)
    generalize w1.alloc (.cells #[] 56) = w9 at *
    go_loopg [4, 16] 4 (fun g s4 s16 wr => ∃ (r : Nat) (v : Value), r + g = 4 ∧ s16 = .int .i64 r ∧ v = s4 ∧ (∃ gg cap, v = .slice (some ⟨gg, 0, none⟩) (ceN (arO f) (r * 4)) cap) ∧ OwnsCells wr (w.heap.size + 1) v (ceN (arO f) (r * 4)) (ceL (arO f) (r * 4)) ∧ Blk wr w.heap.size 16 f 27 ∧ Hid (Below w.heap.size w wr))
    case atStart => exact ⟨0, _, by omega, rfl, rfl, ⟨_, _, rfl⟩, HO, K1, HB⟩
    case round =>
      clear K1 HB HO
      obtain ⟨r, v, hrg, rfl, rfl, hv, ho, k1, hb⟩ := hrel
      cases gk with
      | zero =>
        have hr : ¬ ((r : Int) < 4) := by omega
        obtain rfl : r = 4 := by omega
        clear hrg hr
        obtain ⟨gg, cap, rfl⟩ := hv
        go_wp2_with fail
        go_ret2
        exact ⟨gg, cap, rfl, ownsRow_wide ho (by omega), hb.out⟩
      | succ g =>
        have hr4 : (r : Int) < 4 := by omega
        have hr5 : r < 4 := by omega
        have hsz := hb.out.size
        go_wp2_with ((with_reducible show wpList _ _ _ (Oper.mk _ (Op.load 24 _) _ _ _ _ :: _) _ _); refine loadR (Blk.new _ _ _ _) rfl rfl rfl ?_)
        go_loopg [4, 21] 4 (fun h s4 s21 wx => ∃ (c : Nat) (v : Value), c + h = 4 ∧ s21 = .int .i64 c ∧ v = s4 ∧ (∃ gg cap, v = .slice (some ⟨gg, 0, none⟩) (ceN (arO f) (r * 4 + c)) cap) ∧ OwnsCells wx (w.heap.size + 1) v (ceN (arO f) (r * 4 + c)) (ceL (arO f) (r * 4 + c)) ∧ Blk wx w.heap.size 16 f 27 ∧ Hid (Below w.heap.size w wx))
        case atStart => exact ⟨0, _, by omega, rfl, rfl, hv, World.ownsRow.alloc ho _, k1.alloc _, hb.out.alloc hb.out.size _⟩
        case round =>
          clear hv ho k1 hb hsz
          obtain ⟨c, v, hch, rfl, rfl, hv, ho, k1, hb⟩ := hrel
          cases gk with
          | zero =>
            have hc : ¬ ((c : Int) < 4) := by omega
            have HC : Hid (r * 4 + c = (r + 1) * 4) := by show _ = _; omega
            go_wp2_with fail
            go_roundg g
            case rel => exact ⟨r + 1, _, by omega, by go_num, rfl, by rw [HC.out] at hv; exact hv, by rw [HC.out] at ho; exact ho, k1, hb⟩
            case measure => omega
          | succ q9 =>
            have hc : (c : Int) < 4 := by omega
            have hc0 : (0 : Int) ≤ (c : Int) := by omega
            have hc5 : c < 4 := by omega
            have hn := ceN_le (arO f) (r * 4 + c)
            have hn16 : ceN (arO f) (r * 4 + c) ≤ 16 := by omega
            have HQ : Hid ((r * 4 + c) / 4 = r ∧ (r * 4 + c) % 4 = c) := by show _ ∧ _; omega
            have iR : ∀ W, (Instr.index 24 (.agg (mk 4 fun c => f (r * 4 + c))) (.int .i64 (c : Int))).run Tryz.prog W = .ok (.int .i64 (f (r * 4 + c))) W := fun W => idxR (fun c => f (r * 4 + c)) c hc5 W
            have ho0 : wr.ownsRow (w.heap.size + 1) 56 2 v (ceN (arO f) (r * 4 + c)) ((ceL (arO f) (r * 4 + c)).map (Value.int .i64)) := ho
            have hsz := hb.out.size
            have hlt := k1.lt
            clear ho
            by_cases ht : 1 ≤ f (r * 4 + c) ∧ f (r * 4 + c) ≤ 2
            · have HA := Lib.hid (arO_yes ht)
              have HN : Hid (f (r * 4 + c) ≠ 0) := by show _ ≠ _; omega
              obtain ⟨t0, t1⟩ := ht
              go_wp2_with fail
              refine (isNew_yes _ _ t0 t1).mono ?_
              rintro e w4 ⟨rfl, rfl⟩
              clear t0 t1 iR
              go_wp2_with ((with_reducible show wpList _ _ _ (Oper.mk _ (Op.load 27 _) _ _ _ (some _) :: _) _ _); refine loadgB (k1) rfl rfl rfl ?_)
              refine (isMadeWithout_any f r c _ HVV.out hr5 hc5 HN.out).mono ?_
              rintro e w6 ⟨rfl, hb3⟩
              have k1 := k1.below hb3 k1.lt
              have ho0 : w6.ownsRow (w.heap.size + 1) 56 2 v (ceN (arO f) (r * 4 + c)) ((ceL (arO f) (r * 4 + c)).map (Value.int .i64)) := owns_below ho0 hb3
              have hb : Hid (Below w.heap.size w w6) := hb.out.trans (hb3.mono hb.out.size)
              have hsz := hb.out.size
              have hlt := k1.lt
              rw [← HA.out]
              clear hb3 HA HN
              cases ha : arO f (r * 4 + c) with
              | true =>
                obtain ⟨y1, y2⟩ := ce_yes ha
                have Y1 := Lib.hid y1
                have Y2 := Lib.hid y2
                clear y1 y2 ha
                go_wp2_with (at_builtin; refine wpList_append_own _ rfl _ _ 45 rfl (w.heap.size + 1) 56 i0 (.agg #[.int .i64 0, .int .i64 0]) 2 16 Tryz.underlying45 hi hz0 hz1 hz2 rfl (by decide) _ _ _ rfl (ho0.alloc _) ⟨w6.heap.size, 0, none⟩ 1 1 [.int .i64 r, .int .i64 c] rfl rfl ?c1 ?c2 ?c3 ?c4 ?c5 ?_)
                case c1 => exact cell_two_new _ _ _ _
                case c2 => simp [Value.oneCell']
                case c3 => unfold maxLen; omega
                case c4 => omega
                case c5 => simp; omega
                intro v' w2 hown' hgrow' _
                obtain ⟨gg, cap, hv'⟩ := ownsRow_succ hown'
                have HV' : Hid (∃ gg cap, v' = .slice (some ⟨gg, 0, none⟩) (ceN (arO f) (r * 4 + c) + 1) cap) := ⟨gg, cap, hv'⟩
                have HB2 : Hid (Below w.heap.size w w2) := ((hb.out).alloc hsz _).grown hgrow' (by simp; omega) (fun j hj => by have := (ho0.lt j hj).1; omega)
                have K1 := (k1.alloc (.cells #[.int .i64 r, .int .i64 c] 56)).grown hgrow' (fun e => by have := (ho0.lt _ e.symm).1; omega)
                have HO : Hid (OwnsCells w2 (w.heap.size + 1) v' (ceN (arO f) (r * 4 + c) + 1) (ceL (arO f) (r * 4 + c) ++ [(r : Int), (c : Int)])) := by
                  show OwnsCells _ _ _ _ _
                  unfold OwnsCells
                  rw [List.map_append]
                  exact hown'
                clear hown' hgrow' ho0 hv' k1
                go_wp2_with fail
                go_roundg q9
                case rel => exact ⟨c + 1, _, by omega, by go_num, rfl, by rw [show r * 4 + (c + 1) = r * 4 + c + 1 by omega, Y2.out]; exact HV'.out, by rw [show r * 4 + (c + 1) = r * 4 + c + 1 by omega, Y1.out, Y2.out, HQ.out.1, HQ.out.2]; exact HO.out, K1, HB2⟩
                case measure => omega
              | false =>
                obtain ⟨y1, y2⟩ := ce_no ha
                have Y1 := Lib.hid y1
                have Y2 := Lib.hid y2
                clear y1 y2 ha
                go_wp2_with fail
                go_roundg q9
                case rel => exact ⟨c + 1, _, by omega, by go_num, rfl, by rw [show r * 4 + (c + 1) = r * 4 + c + 1 by omega, Y2.out]; exact hv, by rw [show r * 4 + (c + 1) = r * 4 + c + 1 by omega, Y1.out, Y2.out]; exact ho0, k1, hb⟩
                case measure => omega
            · have ha : arO f (r * 4 + c) = false := arO_no ht
              obtain ⟨y1, y2⟩ := ce_no ha
              have Y1 := Lib.hid y1
              have Y2 := Lib.hid y2
              clear y1 y2 ha
              have hor : f (r * 4 + c) < 1 ∨ 2 < f (r * 4 + c) := by omega
              go_wp2_with fail
              refine (isNew_no _ _ hor).mono ?_
              rintro e w4 ⟨rfl, rfl⟩
              clear ht hor iR
              go_wp2_with fail
              go_roundg q9
              case rel => exact ⟨c + 1, _, by omega, by go_num, rfl, by rw [show r * 4 + (c + 1) = r * 4 + c + 1 by omega, Y2.out]; exact hv, by rw [show r * 4 + (c + 1) = r * 4 + c + 1 by omega, Y1.out, Y2.out]; exact ho0, k1, hb⟩
              case measure => omega
  · obtain ⟨y1, y2⟩ := ar_nv hV
    rw [y1, y2, vdO_no hV]
    go_enter Tryz.func19, Tryz.ntmps19
    go_wp2_with ((with_reducible show wpList _ _ _ (Oper.mk _ (Op.load 27 _) _ _ _ _ :: _) _ _); refine loadB (K1) rfl rfl rfl ?_)
    refine (implBoard_no _ _ hV).mono ?_
    rintro e w1 ⟨rfl, hb⟩
    have HB1 : Hid (Below w.heap.size w w1) := HB.out.trans (hb.mono HB.out.size)
    clear hb HB K1 hV y1 y2
    have HO := Lib.hid (World.ownsRow_made (base := w.heap.size) (e := 56) (size := 2) w1 #[] 0 HB1.out.size (by decide) rfl)
    have HB2 : Hid (Below w.heap.size w (w1.alloc (.cells #[] 56))) := HB1.out.alloc HB1.out.size _
    go_wp2_with fail
    go_ret2
    exact ⟨_, _, rfl, HO.out, HB2.out⟩
end Go.Proofs.YtmcmpedmgibmkabGreat
