/-
  The contracts of BoardText, in the reference and in the program, for every board.
-/
import Derived.Test.YtekdodlkimgbhaaPlainA
import Derived.Test.YtekdodlkimgbhaaCellA
namespace Go.Proofs.Ytekdodlkimgbhaa
open Go.RowKit Plain
attribute [local go_sem] store_new

/-- The slice value v owns a row of these bytes, in blocks from base on. -/
def OwnsBs (w : World) (base : Nat) (v : Value) (xs : List UInt8) : Prop := w.ownsRow base 5 1 v xs.length (xs.map fun b => Value.int .u8 (b.toNat : Int))
theorem infoU8 : (Try.prog.info? 5).map (fun i => (i.zero, i.size, i.bytes)) = some (some (.int .u8 0), 1, 1) := by kernel_rfl
/-- What BoardText returns. -/
def textR (f : Nat → Int) : ByteArray := if Vd f then tbs (textL f) else ByteArray.empty
theorem textR_yes {f : Nat → Int} (h : Vd f) : textR f = tbs (textL f) := by simp [textR, h]
theorem textR_no {f : Nat → Int} (h : ¬ Vd f) : textR f = ByteArray.empty := by simp [textR, h]

theorem letterOf_any (t : Int) (w : World) (h0 : 0 ≤ t) (h1 : t ≤ 17) :
    Calls Try.prog 69 #[.int .i64 t] w fun e w' => e = .returned (.int .u8 ((letB t).toNat : Int)) ∧ w = w' := by
  rw [letB_nat h0 h1]
  rcases (by omega : t = 0 ∨ t = 1 ∨ t = 2 ∨ t = 3 ∨ t = 4 ∨ t = 5 ∨ t = 6 ∨ t = 7 ∨ t = 8 ∨ t = 9 ∨ t = 10 ∨ t = 11 ∨ t = 12 ∨ t = 13 ∨ t = 14 ∨ t = 15 ∨ t = 16 ∨ t = 17) with rfl | rfl | rfl | rfl | rfl | rfl | rfl | rfl | rfl | rfl | rfl | rfl | rfl | rfl | rfl | rfl | rfl | rfl
  all_goals
    go_enter Try.func69, Try.ntmps69
    go_wp2
    go_ret
    exact ⟨rfl, rfl⟩
theorem bytes_text {w : World} {base g cap : Nat} {xs : List UInt8} (h : OwnsBs w base (.slice (some ⟨g, 0, none⟩) xs.length cap) xs) :
    (convert 89 9 (.slice (some ⟨g, 0, none⟩) xs.length cap)).run Try.prog w = .ok (.string (tbs xs)) w :=
  run_convert_bytes_back (P := Try.prog) w 89 9 5 ⟨g, 0, none⟩ cap xs Try.underlying89 Try.underlying5 Try.underlying9 (fun j hj => by
    have ea : (⟨g, 0, none⟩ : Addr).add j = ⟨g, j, none⟩ := by unfold Addr.add; split <;> simp_all
    rw [ea, h.cellAt j (by simpa using hj)]
    simp [hj])
set_option maxHeartbeats 2000000 in
set_option maxRecDepth 20000 in
theorem implText_any (f : Nat → Int) (w : World) :
    Calls Try.prog 71 #[.agg (mk 16 f)] w fun e w' => e = .returned (.tuple #[.string (textR f), .bool (vdO f)]) ∧ Below w.heap.size w w' := by
  obtain ⟨i0, hi, hz0, hz1, hz2⟩ := info_parts infoU8
  have z4 := zero4
  have iG := idxG
  have iR := idxR
  have K1 := Blk.new w 16 f 31
  have HB := Lib.hid ((Below.refl w.heap.size w).alloc (Nat.le_refl _) (.cells (mk 16 f) 31))
  by_cases hV : Vd f
  · rw [textR_yes hV, vdO_yes hV]
    have HV := Lib.hid hV
    go_enter Try.func71, Try.ntmps71
    go_wp2_with ((with_reducible show wpList _ _ _ (Oper.mk _ (Op.load 31 _) _ _ _ _ :: _) _ _); refine loadB (K1) rfl rfl rfl ?_)
    refine (implBoard_yes _ _ hV).mono ?_
    rintro e w1 ⟨rfl, hb⟩
    have K1 := (K1.below hb K1.lt).alloc (.cells #[] 5)
    have HB1 : Hid (Below w.heap.size w w1) := HB.out.trans (hb.mono HB.out.size)
    have HB : Hid (Below w.heap.size w (w1.alloc (.cells #[] 5))) := HB1.out.alloc HB1.out.size _
    have HO : OwnsBs (w1.alloc (.cells #[] 5)) (w.heap.size + 1) (.slice (some ⟨w1.heap.size, 0, none⟩) 0 0) [] :=
      World.ownsRow_made (base := w.heap.size + 1) (e := 5) (size := 1) w1 #[] 0 (by have := hb.size; simpa using this) (by decide) rfl
    clear hb HB1 hV
    go_wp2_with ((with_reducible show wpList _ _ _ (Oper.mk _ (Op.load 23 _) _ _ _ _ :: _) _ _); refine loadG (K1) rfl rfl rfl ?_)
    generalize w1.alloc (.cells #[] 5) = w9 at *
    go_loopg [4, 15] 4 (fun g s4 s15 wr => ∃ (r : Nat) (v : Value), r + g = 4 ∧ s15 = .int .i64 r ∧ v = s4 ∧ (∃ gg cap, v = .slice (some ⟨gg, 0, none⟩) (rowsT f r).length cap) ∧ OwnsBs wr (w.heap.size + 1) v (rowsT f r) ∧ w.heap.size < wr.heap.size ∧ Hid (Below w.heap.size w wr))
    case atStart => exact ⟨0, _, by omega, rfl, rfl, ⟨_, _, rfl⟩, HO, K1.lt, HB⟩
    case round =>
      obtain ⟨r, v, hrg, rfl, rfl, hv, ho, hlt, hb⟩ := hrel
      clear K1 HO HB
      cases gk with
      | zero =>
        have hr : ¬ ((r : Int) < 4) := by omega
        obtain rfl : r = 4 := by omega
        clear hrg hr
        obtain ⟨gg, cap, rfl⟩ := hv
        have cv := bytes_text ho
        go_wp2_with fail
        go_ret2
        exact ⟨rfl, hb.out⟩
      | succ g =>
        have hr4 : (r : Int) < 4 := by omega
        have hr5 : r < 4 := by omega
        have hln := rowsT_len f r
        have iX : ∀ W, (Instr.index 23 (.agg (mk 16 f)) (.int .i64 (r : Int))).run Try.prog W = .ok (.agg (mk 4 (fun c => f (r * 4 + c)))) W := fun W => idxG f r hr5 W
        by_cases hz : r = 0
        · have hrz : ¬ ((0 : Int) < (r : Int)) := by omega
          have HS0 : rowsT f r ++ sepT r = rowsT f r := by simp [sepT, hz]
          have HVv : Hid (∃ gg cap, v = .slice (some ⟨gg, 0, none⟩) (rowsT f r ++ sepT r).length cap) := by rw [HS0]; exact hv
          have HOv := Lib.hid (World.ownsRow.alloc ho (.cells (mk 4 (fun c => f (r * 4 + c))) 22))
          have HOv : Hid (OwnsBs (wr.alloc (.cells (mk 4 (fun c => f (r * 4 + c))) 22)) (w.heap.size + 1) v (rowsT f r ++ sepT r)) := by rw [HS0]; exact HOv.out
          have hb : Hid (Below w.heap.size w (wr.alloc (.cells (mk 4 (fun c => f (r * 4 + c))) 22))) := hb.out.alloc hb.out.size _
          have hlt : w.heap.size < (wr.alloc (.cells (mk 4 (fun c => f (r * 4 + c))) 22)).heap.size := by simp; omega
          clear hv ho HS0 hz
          go_wp2_with ((with_reducible show wpList _ _ _ (Oper.mk _ (Op.load 22 _) _ _ _ _ :: _) _ _); refine loadR (Blk.new _ _ _ _) rfl rfl rfl ?_)
          generalize wr.alloc (.cells (mk 4 (fun c => f (r * 4 + c))) 22) = w5 at *
          go_loopg [4, 25] 4 (fun h s4 s25 wx => ∃ (c : Nat) (v : Value), c + h = 4 ∧ s25 = .int .i64 c ∧ v = s4 ∧ (∃ gg cap, v = .slice (some ⟨gg, 0, none⟩) (rowsT f r ++ sepT r ++ rowT f r c).length cap) ∧ OwnsBs wx (w.heap.size + 1) v (rowsT f r ++ sepT r ++ rowT f r c) ∧ w.heap.size < wx.heap.size ∧ Hid (Below w.heap.size w wx))
          case atStart => exact ⟨0, _, by omega, rfl, rfl, by rw [rowT_zero, List.append_nil]; exact HVv.out, by rw [rowT_zero, List.append_nil]; exact HOv.out, hlt, hb⟩
          case round =>
            obtain ⟨c, v, hch, rfl, rfl, hv, ho, hlt, hb⟩ := hrel
            clear HVv HOv
            cases gk with
            | zero =>
              have hc : ¬ ((c : Int) < 4) := by omega
              obtain rfl : c = 4 := by omega
              clear hch
              go_wp2_with fail
              go_roundg g
              case rel => exact ⟨r + 1, _, by omega, by go_num, rfl, hv, ho, hlt, hb⟩
              case measure => omega
            | succ h =>
              have hc : (c : Int) < 4 := by omega
              have iY : ∀ W, (Instr.index 22 (.agg (mk 4 (fun c => f (r * 4 + c)))) (.int .i64 (c : Int))).run Try.prog W = .ok (.int .i64 (f (r * 4 + c))) W := fun W => idxR (fun c => f (r * 4 + c)) c (by omega) W
              have hx := HV.out (r * 4 + c) (by omega)
              have hn : (rowsT f r ++ sepT r ++ rowT f r c).length ≤ 20 := by
                have h1 := rowsT_len f r
                have h2 := sepT_len r
                simp only [List.length_append, rowT_len]
                omega
              have HS : Hid (rowsT f r ++ sepT r ++ rowT f r (c + 1) = rowsT f r ++ sepT r ++ rowT f r c ++ [letB (f (r * 4 + c))]) := by
                show _ = _
                rw [rowT_step]; simp only [List.append_assoc]
              obtain ⟨x0, x1⟩ := hx
              go_wp2_with fail
              refine (letterOf_any _ _ x0 x1).mono ?_
              rintro e w' ⟨rfl, rfl⟩
              generalize hL : rowsT f r ++ sepT r ++ rowT f r c = L at *
              generalize letB (f (r * 4 + c)) = y at *
              have ho0 : wr.ownsRow (w.heap.size + 1) 5 1 v L.length (L.map fun b => Value.int .u8 (b.toNat : Int)) := ho
              have hsz := hb.out.size
              clear ho hv
              go_wp2_with (at_builtin; refine wpList_append_own _ rfl _ _ 89 rfl (w.heap.size + 1) 5 i0 (.int .u8 0) 1 1 Try.underlying89 hi hz0 hz1 hz2 rfl (by decide) _ _ _ rfl (ho0.alloc _) ⟨wr.heap.size, 0, none⟩ 1 1 [.int .u8 (y.toNat : Int)] rfl rfl ?c1 ?c2 ?c3 ?c4 ?c5 ?_)
              case c1 => exact cell_one_new wr (.int .u8 (y.toNat : Int)) 5
              case c2 => simp [Value.oneCell']
              case c3 => unfold maxLen; omega
              case c4 => omega
              case c5 => simp; omega
              intro v' w2 hown' hgrow' _
              obtain ⟨gg, cap, hv'⟩ := ownsRow_succ hown'
              have HV' : Hid (∃ gg cap, v' = .slice (some ⟨gg, 0, none⟩) (L.length + 1) cap) := ⟨gg, cap, hv'⟩
              have HB2 : Hid (Below w.heap.size w w2) := ((hb.out).alloc hsz _).grown hgrow' (by simp; omega) (fun j hj => by have := (ho0.lt j hj).1; omega)
              have hl2 : w.heap.size < w2.heap.size := by have := hgrow'.size; simp at this; omega
              have HO : Hid (OwnsBs w2 (w.heap.size + 1) v' (L ++ [y])) := by
                show OwnsBs _ _ _ _
                unfold OwnsBs
                rw [List.map_append, List.length_append]
                exact hown'
              clear hown' hgrow' ho0 hv'
              go_wp2_with fail
              go_roundg h
              case rel => exact ⟨c + 1, _, by omega, by go_num, rfl, by rw [HS.out, List.length_append]; exact HV'.out, by rw [HS.out]; exact HO.out, hl2, HB2⟩
              case measure => omega
        · have hrz : (0 : Int) < (r : Int) := by omega
          have HS0 : rowsT f r ++ sepT r = rowsT f r ++ [47] := by simp [sepT, hz]
          have ho0 : (wr.alloc (.cells (mk 4 (fun c => f (r * 4 + c))) 22)).ownsRow (w.heap.size + 1) 5 1 v (rowsT f r).length ((rowsT f r).map fun b => Value.int .u8 (b.toNat : Int)) := World.ownsRow.alloc ho _
          have k5 := (Blk.new wr 4 (fun c => f (r * 4 + c)) 22)
          have hb : Hid (Below w.heap.size w (wr.alloc (.cells (mk 4 (fun c => f (r * 4 + c))) 22))) := hb.out.alloc hb.out.size _
          have hsz := hb.out.size
          have hvlt := fun j hj => (World.ownsRow.lt ho j hj).2
          clear ho
          go_wp2_with (at_builtin; refine wpList_append_own _ rfl _ _ 89 rfl (w.heap.size + 1) 5 i0 (.int .u8 0) 1 1 Try.underlying89 hi hz0 hz1 hz2 rfl (by decide) _ _ _ rfl (ho0.alloc _) ⟨wr.heap.size + 1, 0, none⟩ 1 1 [.int .u8 47] rfl rfl ?d1 ?d2 ?d3 ?d4 ?d5 ?_)
          case d1 =>
            have := cell_one_new (wr.alloc (.cells (mk 4 (fun c => f (r * 4 + c))) 22)) (.int .u8 47) 5
            simpa only [World.size_alloc] using this
          case d2 => simp [Value.oneCell']
          case d3 => unfold maxLen; omega
          case d4 => omega
          case d5 => simp; omega
          intro v' w2 hown' hgrow' _
          obtain ⟨gg, cap, hv'⟩ := ownsRow_succ hown'
          have HVv : Hid (∃ gg cap, v' = .slice (some ⟨gg, 0, none⟩) (rowsT f r ++ sepT r).length cap) := by rw [HS0, List.length_append]; exact ⟨gg, cap, hv'⟩
          have HB2 : Hid (Below w.heap.size w w2) := ((hb.out).alloc hsz _).grown hgrow' (by simp; omega) (fun j hj => by have := (ho0.lt j hj).1; omega)
          have K5 := (k5.alloc (.cells #[.int .u8 47] 5)).grown hgrow' (fun e => by have := hvlt _ e.symm; omega)
          have hl2 : w.heap.size < w2.heap.size := by have := hgrow'.size; simp at this; omega
          have HOv : Hid (OwnsBs w2 (w.heap.size + 1) v' (rowsT f r ++ sepT r)) := by
            rw [HS0]
            show OwnsBs _ _ _ _
            unfold OwnsBs
            rw [List.map_append, List.length_append]
            exact hown'
          clear hown' hgrow' ho0 hv' k5 hv hlt hb HS0 hvlt
          have hlt := hl2
          have hb := HB2
          clear hl2 HB2
          go_wp2_with ((with_reducible show wpList _ _ _ (Oper.mk _ (Op.load 22 _) _ _ _ _ :: _) _ _); refine loadR (K5) rfl rfl rfl ?_)
          clear K5
          go_loopg [4, 25] 4 (fun h s4 s25 wx => ∃ (c : Nat) (v : Value), c + h = 4 ∧ s25 = .int .i64 c ∧ v = s4 ∧ (∃ gg cap, v = .slice (some ⟨gg, 0, none⟩) (rowsT f r ++ sepT r ++ rowT f r c).length cap) ∧ OwnsBs wx (w.heap.size + 1) v (rowsT f r ++ sepT r ++ rowT f r c) ∧ w.heap.size < wx.heap.size ∧ Hid (Below w.heap.size w wx))
          case atStart => exact ⟨0, _, by omega, rfl, rfl, by rw [rowT_zero, List.append_nil]; exact HVv.out, by rw [rowT_zero, List.append_nil]; exact HOv.out, hlt, hb⟩
          case round =>
            obtain ⟨c, v, hch, rfl, rfl, hv, ho, hlt, hb⟩ := hrel
            clear HVv HOv
            cases gk with
            | zero =>
              have hc : ¬ ((c : Int) < 4) := by omega
              obtain rfl : c = 4 := by omega
              clear hch
              go_wp2_with fail
              go_roundg g
              case rel => exact ⟨r + 1, _, by omega, by go_num, rfl, hv, ho, hlt, hb⟩
              case measure => omega
            | succ h =>
              have hc : (c : Int) < 4 := by omega
              have iY : ∀ W, (Instr.index 22 (.agg (mk 4 (fun c => f (r * 4 + c)))) (.int .i64 (c : Int))).run Try.prog W = .ok (.int .i64 (f (r * 4 + c))) W := fun W => idxR (fun c => f (r * 4 + c)) c (by omega) W
              have hx := HV.out (r * 4 + c) (by omega)
              have hn : (rowsT f r ++ sepT r ++ rowT f r c).length ≤ 20 := by
                have h1 := rowsT_len f r
                have h2 := sepT_len r
                simp only [List.length_append, rowT_len]
                omega
              have HS : Hid (rowsT f r ++ sepT r ++ rowT f r (c + 1) = rowsT f r ++ sepT r ++ rowT f r c ++ [letB (f (r * 4 + c))]) := by
                show _ = _
                rw [rowT_step]; simp only [List.append_assoc]
              obtain ⟨x0, x1⟩ := hx
              go_wp2_with fail
              refine (letterOf_any _ _ x0 x1).mono ?_
              rintro e w' ⟨rfl, rfl⟩
              generalize hL : rowsT f r ++ sepT r ++ rowT f r c = L at *
              generalize letB (f (r * 4 + c)) = y at *
              have ho0 : wr.ownsRow (w.heap.size + 1) 5 1 v L.length (L.map fun b => Value.int .u8 (b.toNat : Int)) := ho
              have hsz := hb.out.size
              clear ho hv
              go_wp2_with (at_builtin; refine wpList_append_own _ rfl _ _ 89 rfl (w.heap.size + 1) 5 i0 (.int .u8 0) 1 1 Try.underlying89 hi hz0 hz1 hz2 rfl (by decide) _ _ _ rfl (ho0.alloc _) ⟨wr.heap.size, 0, none⟩ 1 1 [.int .u8 (y.toNat : Int)] rfl rfl ?c1 ?c2 ?c3 ?c4 ?c5 ?_)
              case c1 => exact cell_one_new wr (.int .u8 (y.toNat : Int)) 5
              case c2 => simp [Value.oneCell']
              case c3 => unfold maxLen; omega
              case c4 => omega
              case c5 => simp; omega
              intro v' w2 hown' hgrow' _
              obtain ⟨gg, cap, hv'⟩ := ownsRow_succ hown'
              have HV' : Hid (∃ gg cap, v' = .slice (some ⟨gg, 0, none⟩) (L.length + 1) cap) := ⟨gg, cap, hv'⟩
              have HB2 : Hid (Below w.heap.size w w2) := ((hb.out).alloc hsz _).grown hgrow' (by simp; omega) (fun j hj => by have := (ho0.lt j hj).1; omega)
              have hl2 : w.heap.size < w2.heap.size := by have := hgrow'.size; simp at this; omega
              have HO : Hid (OwnsBs w2 (w.heap.size + 1) v' (L ++ [y])) := by
                show OwnsBs _ _ _ _
                unfold OwnsBs
                rw [List.map_append, List.length_append]
                exact hown'
              clear hown' hgrow' ho0 hv'
              go_wp2_with fail
              go_roundg h
              case rel => exact ⟨c + 1, _, by omega, by go_num, rfl, by rw [HS.out, List.length_append]; exact HV'.out, by rw [HS.out]; exact HO.out, hl2, HB2⟩
              case measure => omega
  · rw [textR_no hV, vdO_no hV]
    go_enter Try.func71, Try.ntmps71
    go_wp2_with ((with_reducible show wpList _ _ _ (Oper.mk _ (Op.load 31 _) _ _ _ _ :: _) _ _); refine loadB (K1) rfl rfl rfl ?_)
    refine (implBoard_no _ _ hV).mono ?_
    rintro e w1 ⟨rfl, hb⟩
    have HB1 : Hid (Below w.heap.size w w1) := HB.out.trans (hb.mono HB.out.size)
    clear hb HB K1 hV
    go_wp2_with fail
    go_ret2
    exact ⟨rfl, HB1.out⟩
theorem sign_slice {t : Int} (h0 : 0 ≤ t) (h1 : t ≤ 17) : (⟨#[46, 97, 98, 99, 100, 101, 102, 103, 104, 105, 106, 107, 108, 109, 110, 111, 112, 113]⟩ : ByteArray).extract t.toNat (t + 1).toNat = tbs [letB t] := by
  rcases (by omega : t = 0 ∨ t = 1 ∨ t = 2 ∨ t = 3 ∨ t = 4 ∨ t = 5 ∨ t = 6 ∨ t = 7 ∨ t = 8 ∨ t = 9 ∨ t = 10 ∨ t = 11 ∨ t = 12 ∨ t = 13 ∨ t = 14 ∨ t = 15 ∨ t = 16 ∨ t = 17) with rfl | rfl | rfl | rfl | rfl | rfl | rfl | rfl | rfl | rfl | rfl | rfl | rfl | rfl | rfl | rfl | rfl | rfl <;> rfl
set_option maxHeartbeats 2000000 in
set_option maxRecDepth 20000 in
theorem l2Text_any (f : Nat → Int) (w : World) (hV : Vd f) :
    Calls Try.prog 94 #[.agg (mk 16 f)] w fun e w' => e = .returned (.string (tbs (textL f))) ∧ Below w.heap.size w w' := by
  have K1 := Blk.new w 16 f 31
  have HB := Lib.hid ((Below.refl w.heap.size w).alloc (Nat.le_refl _) (.cells (mk 16 f) 31))
  have HV := Lib.hid hV
  clear hV
  go_enter Try.func94, Try.ntmps94
  go_wp2_with fail
  go_loopg [3, 4] 4 (fun g s3 s4 wr => ∃ r : Nat, r + g = 4 ∧ s4 = .int .i64 r ∧ s3 = .string (tbs (rowsT f r)) ∧ Blk wr w.heap.size 16 f 31 ∧ Hid (Below w.heap.size w wr))
  case atStart => exact ⟨0, by omega, rfl, rfl, K1, HB⟩
  case round =>
    obtain ⟨r, hrg, rfl, rfl, k1, hb⟩ := hrel
    clear K1 HB
    cases gk with
    | zero =>
      have hr : ¬ ((r : Int) < 4) := by omega
      obtain rfl : r = 4 := by omega
      clear hrg hr
      go_wp2_with fail
      go_ret
      exact ⟨rfl, hb.out⟩
    | succ g =>
      have hr4 : (r : Int) < 4 := by omega
      have hr5 : r < 4 := by omega
      have hln := rowsT_len f r
      by_cases hz : r = 0
      · have hrz : ¬ ((0 : Int) < (r : Int)) := by omega
        have HS0 : Hid (tbs (rowsT f r ++ sepT r) = tbs (rowsT f r)) := by show _ = _; simp [sepT, hz]
        clear hz
        go_wp2_with fail
        rw [← HS0.out]
        go_loopg [3, 5] 4 (fun h s3 s5 wx => ∃ c : Nat, c + h = 4 ∧ s5 = .int .i64 c ∧ s3 = .string (tbs (rowsT f r ++ sepT r ++ rowT f r c)) ∧ Blk wx w.heap.size 16 f 31 ∧ Hid (Below w.heap.size w wx))
        case atStart => exact ⟨0, by omega, rfl, by rw [rowT_zero, List.append_nil], k1, hb⟩
        case round =>
          obtain ⟨c, hch, rfl, rfl, k1, hb⟩ := hrel
          clear HS0
          cases gk with
          | zero =>
            have hc : ¬ ((c : Int) < 4) := by omega
            obtain rfl : c = 4 := by omega
            clear hch
            go_wp2_with fail
            go_roundg g
            case rel => exact ⟨r + 1, by omega, by go_num, (by show _ = Value.string (tbs (rowsT f r ++ sepT r ++ rowT f r 4)); simp only [List.append_assoc]), k1, hb⟩
            case measure => omega
          | succ h =>
            have hc : (c : Int) < 4 := by omega
            have hr0 : (0 : Int) ≤ (r : Nat) := by omega
            have hc0 : (0 : Int) ≤ (c : Int) := by omega
            obtain ⟨x0, x1⟩ := HV.out (r * 4 + c) (by omega)
            have c1 := k1.cell (i := r * 4 + c) (by omega)
            have hn : (tbs (rowsT f r ++ sepT r ++ rowT f r c)).size ≤ 20 := by
              have h1 := rowsT_len f r
              have h2 := sepT_len r
              rw [tbs_size]
              simp only [List.length_append, rowT_len]
              omega
            have HS : Hid (tbs (rowsT f r ++ sepT r ++ rowT f r (c + 1)) = tbs (rowsT f r ++ sepT r ++ rowT f r c) ++ tbs [letB (f (r * 4 + c))]) := by
              show _ = _
              rw [← tbs_app, rowT_step]; simp only [List.append_assoc]
            generalize tbs (rowsT f r ++ sepT r ++ rowT f r c) = T at *
            generalize f (r * 4 + c) = x at *
            have e4 : IntKind.i64.wrap (x + 1) = x + 1 := IntWalk.i64_in _ (by omega)
            have hsl : ∀ W, (Instr.slice 9 (.string ⟨#[46, 97, 98, 99, 100, 101, 102, 103, 104, 105, 106, 107, 108, 109, 110, 111, 112, 113]⟩) (some (.int .i64 x)) (some (.int .i64 (x + 1))) none).run Try.prog W = .ok (.string (tbs [letB x])) W := fun W => by
              rw [run_slice_string W 9 _ .i64 .i64 x (x + 1) Try.underlying9 x0 (by omega) (by show x + 1 ≤ 18; omega), sign_slice x0 x1]
            have hsz : (tbs [letB x]).size ≤ 1 := Nat.le_refl _
            go_wp2_with fail
            go_roundg h
            case rel => exact ⟨c + 1, by omega, by go_num, by rw [HS.out], k1, hb⟩
            case measure => omega
      · have hrz : (0 : Int) < (r : Int) := by omega
        have hs1 : (tbs (rowsT f r)).size ≤ 20 := by rw [tbs_size]; omega
        have HS0 : Hid (tbs (rowsT f r ++ sepT r) = tbs (rowsT f r) ++ (⟨#[47]⟩ : ByteArray)) := by
          show _ = _
          rw [tbs_app]; simp [sepT, hz]; rfl
        go_wp2_with fail
        rw [← HS0.out]
        go_loopg [3, 5] 4 (fun h s3 s5 wx => ∃ c : Nat, c + h = 4 ∧ s5 = .int .i64 c ∧ s3 = .string (tbs (rowsT f r ++ sepT r ++ rowT f r c)) ∧ Blk wx w.heap.size 16 f 31 ∧ Hid (Below w.heap.size w wx))
        case atStart => exact ⟨0, by omega, rfl, by rw [rowT_zero, List.append_nil], k1, hb⟩
        case round =>
          obtain ⟨c, hch, rfl, rfl, k1, hb⟩ := hrel
          clear HS0
          cases gk with
          | zero =>
            have hc : ¬ ((c : Int) < 4) := by omega
            obtain rfl : c = 4 := by omega
            clear hch
            go_wp2_with fail
            go_roundg g
            case rel => exact ⟨r + 1, by omega, by go_num, (by show _ = Value.string (tbs (rowsT f r ++ sepT r ++ rowT f r 4)); simp only [List.append_assoc]), k1, hb⟩
            case measure => omega
          | succ h =>
            have hc : (c : Int) < 4 := by omega
            have hr0 : (0 : Int) ≤ (r : Nat) := by omega
            have hc0 : (0 : Int) ≤ (c : Int) := by omega
            obtain ⟨x0, x1⟩ := HV.out (r * 4 + c) (by omega)
            have c1 := k1.cell (i := r * 4 + c) (by omega)
            have hn : (tbs (rowsT f r ++ sepT r ++ rowT f r c)).size ≤ 20 := by
              have h1 := rowsT_len f r
              have h2 := sepT_len r
              rw [tbs_size]
              simp only [List.length_append, rowT_len]
              omega
            have HS : Hid (tbs (rowsT f r ++ sepT r ++ rowT f r (c + 1)) = tbs (rowsT f r ++ sepT r ++ rowT f r c) ++ tbs [letB (f (r * 4 + c))]) := by
              show _ = _
              rw [← tbs_app, rowT_step]; simp only [List.append_assoc]
            generalize tbs (rowsT f r ++ sepT r ++ rowT f r c) = T at *
            generalize f (r * 4 + c) = x at *
            have e4 : IntKind.i64.wrap (x + 1) = x + 1 := IntWalk.i64_in _ (by omega)
            have hsl : ∀ W, (Instr.slice 9 (.string ⟨#[46, 97, 98, 99, 100, 101, 102, 103, 104, 105, 106, 107, 108, 109, 110, 111, 112, 113]⟩) (some (.int .i64 x)) (some (.int .i64 (x + 1))) none).run Try.prog W = .ok (.string (tbs [letB x])) W := fun W => by
              rw [run_slice_string W 9 _ .i64 .i64 x (x + 1) Try.underlying9 x0 (by omega) (by show x + 1 ≤ 18; omega), sign_slice x0 x1]
            have hsz : (tbs [letB x]).size ≤ 1 := Nat.le_refl _
            go_wp2_with fail
            go_roundg h
            case rel => exact ⟨c + 1, by omega, by go_num, by rw [HS.out], k1, hb⟩
            case measure => omega
end Go.Proofs.Ytekdodlkimgbhaa
