/-
  The contracts of CountTiles, in the reference and in the program, for every board.
-/
import Derived.Test.YtblcojacmjbjcabBaseA
import Derived.Test.YtblcojacmjbjcabPlainA
namespace Go.Proofs.Ytblcojacmjbjcab
open Go.RowKit Plain
attribute [local go_sem] store_new

set_option maxHeartbeats 1000000 in
theorem implCount_any (f : Nat → Int) (w : World) :
    Calls Try.prog 160 #[.agg (mk 16 f)] w fun e w' => e = .returned (.tuple #[.agg (mk 18 (cntR f)), .bool (vdO f)]) ∧ Below w.heap.size w w' := by
  have z18 := zero18
  have z4 := zero4
  have iG := idxG
  have iR := idxR
  have K1 := (Blk.new w 16 f 47).alloc (.cells (mk 18 fun _ => 0) 140)
  have K2 := Blk.new (w.alloc (.cells (mk 16 f) 47)) 18 (fun _ => 0) 140
  have HB := Lib.hid (((Below.refl w.heap.size w).alloc (Nat.le_refl _) (.cells (mk 16 f) 47)).alloc (by simp) (.cells (mk 18 fun _ => 0) 140))
  simp only [World.size_alloc] at K2
  by_cases hV : Vd f
  · rw [cntR_yes hV, vdO_yes hV]
    have HV := Lib.hid hV
    clear hV
    go_enter Try.func160, Try.ntmps160
    go_wp2_with ((with_reducible show wpList _ _ _ (Oper.mk _ (Op.load 47 _) _ _ _ _ :: _) _ _); refine loadB (K1) rfl rfl rfl ?_)
    refine (implBoard_yes _ _ HV.out).mono ?_
    rintro e w1 ⟨rfl, hb⟩
    have K1 := (K1.below hb K1.lt).alloc (.cells (mk 18 fun _ => 0) 140)
    have K2 := (K2.below hb K2.lt).alloc (.cells (mk 18 fun _ => 0) 140)
    have K3 := Blk.new w1 18 (fun _ => 0) 140
    have l1 := (K2.lt)
    have HB1 : Hid (Below w.heap.size w w1) := HB.out.trans (hb.mono HB.out.size)
    have hs : w.heap.size + 1 < w1.heap.size := by have := hb.size; simp at this; omega
    have HB : Hid (Below w.heap.size w (w1.alloc (.cells (mk 18 fun _ => 0) 140))) := HB1.out.alloc HB1.out.size _
    clear hb HB1 l1
    go_wp2_with ((with_reducible show wpList _ _ _ (Oper.mk _ (Op.load 45 _) _ _ _ _ :: _) _ _); refine loadG (K1) rfl rfl rfl ?_)
    generalize w1.alloc (.cells (mk 18 fun _ => 0) 140) = w2 at *
    go_loopg [16] 4 (fun g s16 wr => ∃ r : Nat, r + g = 4 ∧ s16 = .int .i64 r ∧ Blk wr (w.heap.size + 1) 18 (fun _ => 0) 140 ∧ Blk wr w1.heap.size 18 (cntF f (r * 4)) 140 ∧ Hid (Below w.heap.size w wr))
    case atStart => exact ⟨0, by omega, rfl, K2, K3, HB⟩
    case round =>
      obtain ⟨r, hrg, rfl, k2, k3, hb⟩ := hrel
      cases gk with
      | zero =>
        have hr : ¬ ((r : Int) < 4) := by omega
        obtain rfl : r = 4 := by omega
        clear hrg hr
        go_wp2_with (first | ((with_reducible show wpList _ _ _ (Oper.mk _ (Op.load 140 _) _ _ _ _ :: _) _ _); refine loadN (k3) rfl rfl rfl ?_) | ((with_reducible show wpList _ _ _ (Oper.mk _ (Op.store 140 _ _) _ _ _ _ :: _) _ _); refine storeN (k2) rfl rfl rfl rfl ?_))
        try simp only [Exit.inBlock, Exit.then]
        exact retctN (k2.row 18 _) rfl rfl rfl ⟨rfl, below_setRow hb.out (by omega) _⟩
      | succ g =>
        have hr4 : (r : Int) < 4 := by omega
        have hr5 : r < 4 := by omega
        have l3 := k3.lt
        go_wp2_with ((with_reducible show wpList _ _ _ (Oper.mk _ (Op.load 44 _) _ _ _ _ :: _) _ _); refine loadR (Blk.new _ _ _ _) rfl rfl rfl ?_)
        go_loopg [20] 4 (fun h s20 wx => ∃ c : Nat, c + h = 4 ∧ s20 = .int .i64 c ∧ Blk wx (w.heap.size + 1) 18 (fun _ => 0) 140 ∧ Blk wx w1.heap.size 18 (cntF f (r * 4 + c)) 140 ∧ Hid (Below w.heap.size w wx))
        case atStart => exact ⟨0, by omega, rfl, k2.alloc _, k3.alloc _, hb.out.alloc hb.out.size _⟩
        case round =>
          obtain ⟨c, hch, rfl, k2, k3, hb⟩ := hrel
          cases gk with
          | zero =>
            have hc : ¬ ((c : Int) < 4) := by omega
            have HC : Hid (r * 4 + c = (r + 1) * 4) := by show _ = _; omega
            go_wp2_with fail
            go_roundg g
            case rel => exact ⟨r + 1, by omega, by go_num, k2, by rw [HC.out] at k3; exact k3, hb⟩
            case measure => omega
          | succ h =>
            have hc : (c : Int) < 4 := by omega
            have hc5 : c < 4 := by omega
            obtain ⟨x0, x1⟩ := HV.out (r * 4 + c) (by omega)
            obtain ⟨v, hv⟩ := Int.eq_ofNat_of_zero_le x0
            have hv1 : (v : Int) < 18 := by omega
            have hv2 : v < 18 := by omega
            have HX := Lib.hid hv
            have c3 := k3.cell (i := v) (by omega)
            have f3 := k3.free v
            obtain ⟨n0, n1⟩ := cntF_bd f (r * 4 + c) v
            have n2 : cntF f (r * 4 + c) v ≤ 16 := by omega
            have HS : Hid (∀ j, upd (cntF f (r * 4 + c)) v (cntF f (r * 4 + c) v + 1) j = cntF f (r * 4 + (c + 1)) j) := fun j => cntF_step f (r * 4 + c) v j HX.out
            generalize cntF f (r * 4 + c) = o at *
            generalize o v = n at c3 n0 n1 n2 HS
            clear x0 x1
            go_wp2_with fail
            go_roundg h
            case rel => exact ⟨c + 1, by omega, by go_num, k2.setOther _ _ (by dsimp only; omega), (k3.set (by omega) _).congr fun j _ => HS.out j, hb.out.setCell (by dsimp only; omega) _⟩
            case measure => omega
  · rw [cntR_no hV, vdO_no hV]
    have HV := Lib.hid hV
    clear hV
    go_enter Try.func160, Try.ntmps160
    go_wp2_with ((with_reducible show wpList _ _ _ (Oper.mk _ (Op.load 47 _) _ _ _ _ :: _) _ _); refine loadB (K1) rfl rfl rfl ?_)
    refine (implBoard_no _ _ HV.out).mono ?_
    rintro e w1 ⟨rfl, hb⟩
    have K2 := K2.below hb K2.lt
    have HB : Hid (Below w.heap.size w w1) := HB.out.trans (hb.mono HB.out.size)
    clear hb
    go_wp2_with ((with_reducible show wpList _ _ _ (Oper.mk _ (Op.store 140 _ _) _ _ _ _ :: _) _ _); refine storeN (K2) rfl rfl rfl rfl ?_)
    try simp only [Exit.inBlock, Exit.then]
    exact retctN (K2.row 18 _) rfl rfl rfl ⟨rfl, below_setRow HB.out (by omega) _⟩
end Go.Proofs.Ytblcojacmjbjcab
