/-
  The contracts of HighestTile, in the reference and in the program, for every board.
-/
import Derived.Test.YtekdodlkimgbhaaBaseA
import Derived.Test.YtekdodlkimgbhaaPlainA
import Derived.RegionTactic
namespace Go.Proofs.Ytekdodlkimgbhaa
open Go.RowKit Plain
attribute [local go_sem] store_new

theorem cell_two (r c : Nat) (hc : c < 4) : ∀ i, i < 2 → two (r : Int) (c : Int) i = cellF (r * 4 + c) i := by
  intro i hi
  rcases (by omega : i = 0 ∨ i = 1) with rfl | rfl
  · show (r : Int) = (((r * 4 + c) / 4 : Nat) : Int); omega
  · show (c : Int) = (((r * 4 + c) % 4 : Nat) : Int); omega

set_option maxHeartbeats 1000000 in
theorem specHigh_any (f : Nat → Int) (w : World) :
    Calls Try.prog 61 #[.agg (mk 16 f)] w fun e w' => e = .returned (.tuple #[.int .i64 (hiT f), .agg (mk 2 (hiC f)), .bool (hiO f)]) ∧ Below w.heap.size w w' := by
  have z2 := zero2
  have K1 := ((Blk.new w 16 f 31).alloc (.cells (mk 2 fun _ => 0) 44)).alloc (.cells (mk 2 fun _ => 0) 44)
  have K2 := (Blk.new (w.alloc (.cells (mk 16 f) 31)) 2 (fun _ => 0) 44).alloc (.cells (mk 2 fun _ => 0) 44)
  have K3 := Blk.new ((w.alloc (.cells (mk 16 f) 31)).alloc (.cells (mk 2 fun _ => 0) 44)) 2 (fun _ => 0) 44
  have HB := Lib.hid ((((Below.refl w.heap.size w).alloc (Nat.le_refl _) (.cells (mk 16 f) 31)).alloc (by simp) (.cells (mk 2 fun _ => 0) 44)).alloc (by simp; omega) (.cells (mk 2 fun _ => 0) 44))
  simp only [World.size_alloc] at K2 K3
  by_cases hV : Vd f
  · obtain ⟨y1, y2, y3⟩ := hi_yes hV
    rw [y1, y2, y3]
    clear y1 y2 y3
    have HV := Lib.hid hV
    clear hV
    go_enter Try.func61, Try.ntmps61
    go_wp2_with ((with_reducible show wpList _ _ _ (Oper.mk _ (Op.load 31 _) _ _ _ _ :: _) _ _); refine loadB (K1) rfl rfl rfl ?_)
    refine (l2Board_yes _ _ HV.out).mono ?_
    rintro e w1 ⟨rfl, hb⟩
    have K1 := K1.below hb K1.lt
    have K2 := K2.below hb K2.lt
    have K3 := K3.below hb K3.lt
    have HB : Hid (Below w.heap.size w w1) := HB.out.trans (hb.mono HB.out.size)
    clear hb
    go_wp2_with fail
    clear z2
    go_loopg [7, 5] 4 (fun g s7 s5 wr => ∃ r : Nat, r + g = 4 ∧ s7 = .int .i64 r ∧ s5 = .int .i64 (hiF f (r * 4)).1 ∧ Blk wr w.heap.size 16 f 31 ∧ Blk wr (w.heap.size + 1) 2 (fun _ => 0) 44 ∧ Blk wr (w.heap.size + 1 + 1) 2 (cellF (hiF f (r * 4)).2) 44 ∧ Hid (Below w.heap.size w wr))
    case atStart => exact ⟨0, by omega, rfl, rfl, K1, K2, K3.congr (fun i _ => by show (0 : Int) = cellF 0 i; unfold cellF; split <;> rfl), HB⟩
    case round =>
      obtain ⟨r, hrg, rfl, rfl, k1, k2, k3, hb⟩ := hrel
      cases gk with
      | zero =>
        have hr : ¬ ((r : Int) < 4) := by omega
        obtain rfl : r = 4 := by omega
        clear hrg hr
        have HE : hiF f (4 * 4) = hiF f 16 := rfl
        obtain ⟨x, p, hq⟩ : ∃ x p, hiF f 16 = (x, p) := ⟨_, _, rfl⟩
        rw [HE, hq] at k3 ⊢
        simp only [] at k3
        have HQ := Lib.hid hq
        clear HE hq
        obtain ⟨v, hv⟩ : ∃ v, v = cellF p := ⟨_, rfl⟩
        rw [← hv] at k3
        have HVV := Lib.hid hv
        clear hv
        have a0 := k3.cell (i := 0) (by omega)
        have a1 := k3.cell (i := 1) (by omega)
        have ae : (#[.int .i64 (v 0), .int .i64 (v 1)] : Array Value) = mk 2 v := rfl
        have ms := mk_size 2 v
        have hst := run_store_blk (P := Try.prog) v k2.drew
        go_wp2_with fail
        go_region
        all_goals
          clear a0 a1 ae ms hst
          go_wp2_with fail
          try simp only [Exit.inBlock, Exit.then]
          exact ret_tct Try.underlying44 rfl sizeC rfl rfl rfl (k2.drew.row 2 _) ⟨by rw [HQ.out, ← HVV.out]; rfl, below_setRow hb.out.drew (by omega) _⟩
      | succ g =>
        have hr4 : (r : Int) < 4 := by omega
        go_wp2_with fail
        go_loopg [8, 5] 4 (fun h s8 s5 wx => ∃ c : Nat, c + h = 4 ∧ s8 = .int .i64 c ∧ s5 = .int .i64 (hiF f (r * 4 + c)).1 ∧ Blk wx w.heap.size 16 f 31 ∧ Blk wx (w.heap.size + 1) 2 (fun _ => 0) 44 ∧ Blk wx (w.heap.size + 1 + 1) 2 (cellF (hiF f (r * 4 + c)).2) 44 ∧ Hid (Below w.heap.size w wx))
        case atStart => exact ⟨0, by omega, rfl, rfl, k1, k2, k3, hb⟩
        case round =>
          obtain ⟨c, hch, rfl, rfl, k1, k2, k3, hb⟩ := hrel
          cases gk with
          | zero =>
            have hc : ¬ ((c : Int) < 4) := by omega
            have HC : Hid (r * 4 + c = (r + 1) * 4) := by show _ = _; omega
            go_wp2_with fail
            go_roundg g
            case rel => exact ⟨r + 1, by omega, by go_num, by rw [HC.out], k1, k2, by rw [HC.out] at k3; exact k3, hb⟩
            case measure => omega
          | succ h =>
            have hc : (c : Int) < 4 := by omega
            have hc4 : c < 4 := by omega
            have c1 := k1.cell (i := r * 4 + c) (by omega)
            by_cases hx : (hiF f (r * 4 + c)).1 < f (r * 4 + c)
            · have HS : Hid (hiF f (r * 4 + (c + 1)) = (f (r * 4 + c), r * 4 + c)) := hiF_yes hx
              generalize f (r * 4 + c) = x at c1 hx HS
              generalize (hiF f (r * 4 + c)).1 = y at *
              go_wp2_with ((with_reducible show wpList _ _ _ (Oper.mk _ (Op.store 44 _ _) _ _ _ _ :: _) _ _); refine storeC (g := two _ _) (k3) rfl rfl rfl rfl ?_)
              go_roundg h
              case rel => exact ⟨c + 1, by omega, by go_num, by rw [HS.out], k1.rowOther _ _ (by omega), k2.rowOther _ _ (by omega), (k3.row 2 _).congr (fun i hi => by rw [HS.out]; exact cell_two r c hc4 i hi), below_setRow hb.out (by omega) _⟩
              case measure => omega
            · have HS : Hid (hiF f (r * 4 + (c + 1)) = hiF f (r * 4 + c)) := hiF_no hx
              have hx2 : f (r * 4 + c) ≤ (hiF f (r * 4 + c)).1 := by omega
              clear hx
              generalize f (r * 4 + c) = x at c1 hx2
              generalize hiF f (r * 4 + c) = q at *
              obtain ⟨y, p⟩ := q
              simp only [] at hx2 k3
              go_wp2_with fail
              go_roundg h
              case rel => exact ⟨c + 1, by omega, by go_num, by rw [HS.out], k1, k2, by rw [HS.out]; exact k3, hb⟩
              case measure => omega
  · obtain ⟨y1, y2, y3⟩ := hi_no hV
    rw [y1, y2, y3]
    clear y1 y2 y3
    have HV := Lib.hid hV
    clear hV
    go_enter Try.func61, Try.ntmps61
    go_wp2_with ((with_reducible show wpList _ _ _ (Oper.mk _ (Op.load 31 _) _ _ _ _ :: _) _ _); refine loadB (K1) rfl rfl rfl ?_)
    refine (l2Board_no _ _ HV.out).mono ?_
    rintro e w1 ⟨rfl, hb⟩
    have K2 := K2.below hb K2.lt
    have K3 := K3.below hb K3.lt
    have HB : Hid (Below w.heap.size w w1) := HB.out.trans (hb.mono HB.out.size)
    clear hb
    have a0 := K3.cell (i := 0) (by omega)
    have a1 := K3.cell (i := 1) (by omega)
    have ms := mk_size 2 (fun _ => 0)
    have hst := run_store_blk (P := Try.prog) (fun _ => 0) K2.drew
    go_wp2_with fail
    go_region
    all_goals
      clear a0 a1 ms hst
      go_wp2_with fail
      try simp only [Exit.inBlock, Exit.then]
      exact ret_tct Try.underlying44 rfl sizeC rfl rfl rfl (K2.drew.row 2 _) ⟨rfl, below_setRow HB.out.drew (by omega) _⟩

set_option maxHeartbeats 1000000 in
theorem implHigh_any (f : Nat → Int) (w : World) :
    Calls Try.prog 62 #[.agg (mk 16 f)] w fun e w' => e = .returned (.tuple #[.int .i64 (hiT f), .agg (mk 2 (hiC f)), .bool (hiO f)]) ∧ Below w.heap.size w w' := by
  have z2 := zero2
  have z4 := zero4
  have iG := idxG
  have iR := idxR
  have K1 := (Blk.new w 16 f 31).alloc (.cells (mk 2 fun _ => 0) 44)
  have K2 := Blk.new (w.alloc (.cells (mk 16 f) 31)) 2 (fun _ => 0) 44
  have HB := Lib.hid (((Below.refl w.heap.size w).alloc (Nat.le_refl _) (.cells (mk 16 f) 31)).alloc (by simp) (.cells (mk 2 fun _ => 0) 44))
  simp only [World.size_alloc] at K2
  by_cases hV : Vd f
  · obtain ⟨y1, y2, y3⟩ := hi_yes hV
    rw [y1, y2, y3]
    clear y1 y2 y3
    have HV := Lib.hid hV
    clear hV
    go_enter Try.func62, Try.ntmps62
    go_wp2_with ((with_reducible show wpList _ _ _ (Oper.mk _ (Op.load 31 _) _ _ _ _ :: _) _ _); refine loadB (K1) rfl rfl rfl ?_)
    refine (implBoard_yes _ _ HV.out).mono ?_
    rintro e w1 ⟨rfl, hb⟩
    have K1 := (K1.below hb K1.lt).alloc (.cells (mk 2 fun _ => 0) 44)
    have K2 := (K2.below hb K2.lt).alloc (.cells (mk 2 fun _ => 0) 44)
    have K3 := Blk.new w1 2 (fun _ => 0) 44
    have hs : w.heap.size + 1 < w1.heap.size := by have := hb.size; simp at this; omega
    have HB1 : Hid (Below w.heap.size w w1) := HB.out.trans (hb.mono HB.out.size)
    have HB : Hid (Below w.heap.size w (w1.alloc (.cells (mk 2 fun _ => 0) 44))) := HB1.out.alloc HB1.out.size _
    clear hb HB1
    go_wp2_with ((with_reducible show wpList _ _ _ (Oper.mk _ (Op.load 23 _) _ _ _ _ :: _) _ _); refine loadG (K1) rfl rfl rfl ?_)
    generalize w1.alloc (.cells (mk 2 fun _ => 0) 44) = w2 at *
    clear z2
    go_loopg [18, 5] 4 (fun g s18 s5 wr => ∃ r : Nat, r + g = 4 ∧ s18 = .int .i64 r ∧ s5 = .int .i64 (hiF f (r * 4)).1 ∧ Blk wr (w.heap.size + 1) 2 (fun _ => 0) 44 ∧ Blk wr w1.heap.size 2 (cellF (hiF f (r * 4)).2) 44 ∧ Hid (Below w.heap.size w wr))
    case atStart => exact ⟨0, by omega, rfl, rfl, K2, K3.congr (fun i _ => by show (0 : Int) = cellF 0 i; unfold cellF; split <;> rfl), HB⟩
    case round =>
      obtain ⟨r, hrg, rfl, rfl, k2, k3, hb⟩ := hrel
      cases gk with
      | zero =>
        have hr : ¬ ((r : Int) < 4) := by omega
        obtain rfl : r = 4 := by omega
        clear hrg hr
        have HE : hiF f (4 * 4) = hiF f 16 := rfl
        obtain ⟨x, p, hq⟩ : ∃ x p, hiF f 16 = (x, p) := ⟨_, _, rfl⟩
        rw [HE, hq] at k3 ⊢
        simp only [] at k3
        have HQ := Lib.hid hq
        clear HE hq
        obtain ⟨v, hv⟩ : ∃ v, v = cellF p := ⟨_, rfl⟩
        rw [← hv] at k3
        have HVV := Lib.hid hv
        clear hv
        have a0 := k3.cell (i := 0) (by omega)
        have a1 := k3.cell (i := 1) (by omega)
        have ae : (#[.int .i64 (v 0), .int .i64 (v 1)] : Array Value) = mk 2 v := rfl
        have ms := mk_size 2 v
        have hst := run_store_blk (P := Try.prog) v k2.drew
        go_wp2_with fail
        go_region
        all_goals
          clear a0 a1 ae ms hst
          go_wp2_with fail
          try simp only [Exit.inBlock, Exit.then]
          exact ret_tct Try.underlying44 rfl sizeC rfl rfl rfl (k2.drew.row 2 _) ⟨by rw [HQ.out, ← HVV.out]; rfl, below_setRow hb.out.drew (by omega) _⟩
      | succ g =>
        have hr4 : (r : Int) < 4 := by omega
        have hr5 : r < 4 := by omega
        have l3 := k3.lt
        go_wp2_with ((with_reducible show wpList _ _ _ (Oper.mk _ (Op.load 22 _) _ _ _ _ :: _) _ _); refine loadR (Blk.new _ _ _ _) rfl rfl rfl ?_)
        go_loopg [23, 5] 4 (fun h s23 s5 wx => ∃ c : Nat, c + h = 4 ∧ s23 = .int .i64 c ∧ s5 = .int .i64 (hiF f (r * 4 + c)).1 ∧ Blk wx (w.heap.size + 1) 2 (fun _ => 0) 44 ∧ Blk wx w1.heap.size 2 (cellF (hiF f (r * 4 + c)).2) 44 ∧ Hid (Below w.heap.size w wx))
        case atStart => exact ⟨0, by omega, rfl, rfl, k2.alloc _, k3.alloc _, hb.out.alloc hb.out.size _⟩
        case round =>
          obtain ⟨c, hch, rfl, rfl, k2, k3, hb⟩ := hrel
          cases gk with
          | zero =>
            have hc : ¬ ((c : Int) < 4) := by omega
            have HC : Hid (r * 4 + c = (r + 1) * 4) := by show _ = _; omega
            go_wp2_with fail
            go_roundg g
            case rel => exact ⟨r + 1, by omega, by go_num, by rw [HC.out], k2, by rw [HC.out] at k3; exact k3, hb⟩
            case measure => omega
          | succ h =>
            have hc : (c : Int) < 4 := by omega
            have hc4 : c < 4 := by omega
            by_cases hx : (hiF f (r * 4 + c)).1 < f (r * 4 + c)
            · have HS : Hid (hiF f (r * 4 + (c + 1)) = (f (r * 4 + c), r * 4 + c)) := hiF_yes hx
              generalize (hiF f (r * 4 + c)).1 = y at *
              go_wp2_with ((with_reducible show wpList _ _ _ (Oper.mk _ (Op.store 44 _ _) _ _ _ _ :: _) _ _); refine storeC (g := two _ _) (k3) rfl rfl rfl rfl ?_)
              go_roundg h
              case rel => exact ⟨c + 1, by omega, by go_num, by rw [HS.out], k2.rowOther _ _ (by omega), (k3.row 2 _).congr (fun i hi => by rw [HS.out]; exact cell_two r c hc4 i hi), below_setRow hb.out (by omega) _⟩
              case measure => omega
            · have HS : Hid (hiF f (r * 4 + (c + 1)) = hiF f (r * 4 + c)) := hiF_no hx
              have hx2 : f (r * 4 + c) ≤ (hiF f (r * 4 + c)).1 := by omega
              clear hx
              generalize hiF f (r * 4 + c) = q at *
              obtain ⟨y, p⟩ := q
              simp only [] at hx2 k3
              go_wp2_with fail
              go_roundg h
              case rel => exact ⟨c + 1, by omega, by go_num, by rw [HS.out], k2, by rw [HS.out]; exact k3, hb⟩
              case measure => omega
  · obtain ⟨y1, y2, y3⟩ := hi_no hV
    rw [y1, y2, y3]
    clear y1 y2 y3
    have HV := Lib.hid hV
    clear hV
    go_enter Try.func62, Try.ntmps62
    go_wp2_with ((with_reducible show wpList _ _ _ (Oper.mk _ (Op.load 31 _) _ _ _ _ :: _) _ _); refine loadB (K1) rfl rfl rfl ?_)
    refine (implBoard_no _ _ HV.out).mono ?_
    rintro e w1 ⟨rfl, hb⟩
    have K2 := K2.below hb K2.lt
    have HB : Hid (Below w.heap.size w w1) := HB.out.trans (hb.mono HB.out.size)
    clear hb
    go_wp2_with ((with_reducible show wpList _ _ _ (Oper.mk _ (Op.store 44 _ _) _ _ _ _ :: _) _ _); refine storeC (K2) rfl rfl rfl rfl ?_)
    try simp only [Exit.inBlock, Exit.then]
    exact ret_tct Try.underlying44 rfl sizeC rfl rfl rfl (K2.row 2 _) ⟨rfl, below_setRow HB.out (by omega) _⟩
end Go.Proofs.Ytekdodlkimgbhaa
