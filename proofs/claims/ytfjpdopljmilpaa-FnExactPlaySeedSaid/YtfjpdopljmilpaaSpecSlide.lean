/-
  The contract of the reference's slide: for every board whose numbers are those of cells and every side, the board behind the slide and the score.
-/
import Derived.Test.YtfjpdopljmilpaaNumbers
import Derived.Test.YtfjpdopljmilpaaSpecRow
namespace Go.Proofs.Ytfjpdopljmilpaa
open Go.RowKit Plain
attribute [local go_sem] store_new

set_option maxHeartbeats 2000000 in
theorem l2Slide_0 (f : Nat → Int) (w : World) (hf : Vd f) :
    Calls Try.prog 142 #[.agg (mk 16 f), .int .i64 0] w fun e w' => e = .returned (.tuple #[.agg (mk 16 (slideB f 0)), .int .i64 (slideS f 0 4)]) ∧ Below w.heap.size w w' := by
  have z16 := zero16
  have z4 := zero4
  have z8 := zero8
  have HV := Lib.hid hf
  clear hf
  have K1 := ((Blk.new w 16 f 26).alloc (.cells (mk 16 fun _ => 0) 26)).alloc (.cells (mk 16 f) 26)
  have K1' := (Blk.new w 16 f 26).alloc (.cells (mk 16 fun _ => 0) 26)
  have K2 := (Blk.new (w.alloc (.cells (mk 16 f) 26)) 16 (fun _ => 0) 26).alloc (.cells (mk 16 f) 26)
  have K3 := Blk.new ((w.alloc (.cells (mk 16 f) 26)).alloc (.cells (mk 16 fun _ => 0) 26)) 16 f 26
  have HB := Lib.hid ((((Below.refl w.heap.size w).alloc (Nat.le_refl _) (.cells (mk 16 f) 26)).alloc (by simp) (.cells (mk 16 fun _ => 0) 26)).alloc (by simp; omega) (.cells (mk 16 f) 26))
  simp only [World.size_alloc] at K2 K3
  go_enter Try.func142, Try.ntmps142
  go_wp2_with ((with_reducible show wpList _ _ _ (Oper.mk _ (Op.load 26 _) _ _ _ _ :: _) _ _); refine loadB (K1') rfl rfl rfl ?_)
  clear K1'
  generalize ((w.alloc (.cells (mk 16 f) 26)).alloc (.cells (mk 16 fun _ => 0) 26)).alloc (.cells (mk 16 f) 26) = w1 at *
  go_loopg [8, 7] 4 (fun g s8 s7 wr => ∃ i : Nat, i + g = 4 ∧ s8 = .int .i64 i ∧ s7 = .int .i64 (slideS f 0 i) ∧ Blk wr w.heap.size 16 f 26 ∧ Blk wr (w.heap.size + 1) 16 (fun _ => 0) 26 ∧ Blk wr (w.heap.size + 1 + 1) 16 (outF f 0 i 0) 26 ∧ Hid (Below w.heap.size w wr))
  case atStart => exact ⟨0, by omega, rfl, rfl, K1, K2, K3.congr fun j _ => (outF_zero f 0 j).symm, HB⟩
  case round =>
    obtain ⟨i, hig, rfl, rfl, k1, k2, k3, hb⟩ := hrel
    cases gk with
    | zero =>
      have hi : ¬ ((i : Int) < 4) := by omega
      obtain rfl : i = 4 := by omega
      clear hig hi
      go_wp2_with (first | ((with_reducible show wpList _ _ _ (Oper.mk _ (Op.load 26 _) _ _ _ _ :: _) _ _); refine loadB (k3) rfl rfl rfl ?_) | ((with_reducible show wpList _ _ _ (Oper.mk _ (Op.store 26 _ _) _ _ _ _ :: _) _ _); refine storeB (k2) rfl rfl rfl rfl ?_))
      try simp only [Exit.inBlock, Exit.then]
      refine retctB (k2.row 16 _) rfl rfl rfl ⟨?_, below_setRow hb.out (by omega) _⟩
      rw [mk_congr (outF_all f 0)]
      rfl
    | succ g =>
      have hi : (i : Int) < 4 := by omega
      have hi4 : i < 4 := by omega
      obtain ⟨s0, s1⟩ := slideS_bd HV.out 0 i (by omega)
      have HOK := Lib.hid (slid_ok (lineF_vd HV.out 0 hi4) 4 (Nat.le_refl _))
      have q0 := HOK.out.sc0
      have q1 := HOK.out.sc1
      clear HOK
      have HSS : Hid (slideS f 0 (i + 1) = slideS f 0 i + (slid (lineF f 0 i) 4).sc) := rfl
      have l1 := k1.lt
      have l3 := k3.lt
      go_wp2_with ((with_reducible show wpList _ _ _ (Oper.mk _ (Op.load 26 _) _ _ _ _ :: _) _ _); refine loadB (k1) rfl rfl rfl ?_)
      refine (l2Numbers_0 f i _ hi4).mono ?_
      rintro e w2 ⟨rfl, hb2⟩
      have k1 := k1.below hb2 k1.lt
      have k2 := k2.below hb2 k2.lt
      have k3 := k3.below hb2 k3.lt
      have HB2 : Hid (Below w.heap.size w w2) := hb.out.trans (hb2.mono hb.out.size)
      clear hb2 hb
      go_wp2_with fail
      refine (l2Row_any _ _ (lineF_vd HV.out 0 hi4)).mono ?_
      rintro e w3 ⟨rfl, hb3⟩
      have k1 := k1.below hb3 k1.lt
      have k2 := k2.below hb3 k2.lt
      have k3 := k3.below hb3 k3.lt
      have HB3 : Hid (Below w.heap.size w w3) := HB2.out.trans (hb3.mono HB2.out.size)
      clear hb3 HB2
      have HO : Hid (∀ k, k < 4 → ∀ j, j < 16 → upd (outF f 0 i k) (pos 0 i k) ((slid (lineF f 0 i) 4).row k) j = outF f 0 i (k + 1) j) := fun k hk => outF_step f 0 hi4 hk
      generalize slid (lineF f 0 i) 4 = S at *
      obtain ⟨row, n, sc, mg, op⟩ := S
      simp only [] at q0 q1 HO
      go_wp2_with fail
      refine (l2Line_0 i _ hi4).mono ?_
      rintro e w4 ⟨rfl, hb4⟩
      have k1 := (k1.alloc _).below hb4 (k1.alloc _).lt
      have k2 := (k2.alloc _).below hb4 (k2.alloc _).lt
      have k3 := (k3.alloc _).below hb4 (k3.alloc _).lt
      have l9 : w3.heap.size < w4.heap.size := by have := hb4.size; simp at this; omega
      have k9 := (Blk.new w3 4 row 22).below hb4 (by simp)
      have HB4 : Hid (Below w.heap.size w w4) := (HB3.out.alloc HB3.out.size _).trans (hb4.mono (by have := HB3.out.size; simp; omega))
      have l0 : w.heap.size + 1 + 1 < w3.heap.size := by have := HB3.out.size; have := k3.lt; have h1 := hb4.size; simp at h1; have h2 := Blk.lt (w := w3) (b := w.heap.size + 1 + 1) (by assumption); omega
      clear hb4 HB3
      go_wp2_with fail
      have k1 := k1.alloc (.cells (mk 8 (lineV 0 i)) 227)
      have k2 := k2.alloc (.cells (mk 8 (lineV 0 i)) 227)
      have k3 := k3.alloc (.cells (mk 8 (lineV 0 i)) 227)
      have k9 := k9.alloc (.cells (mk 8 (lineV 0 i)) 227)
      have k11 := Blk.new w4 8 (lineV 0 i) 227
      have HB5 : Hid (Below w.heap.size w (w4.alloc (.cells (mk 8 (lineV 0 i)) 227))) := HB4.out.alloc HB4.out.size _
      clear HB4
      generalize w4.alloc (.cells (mk 8 (lineV 0 i)) 227) = w5 at *
      go_loopg [12] 4 (fun h s12 wx => ∃ k : Nat, k + h = 4 ∧ s12 = .int .i64 k ∧ Blk wx w.heap.size 16 f 26 ∧ Blk wx (w.heap.size + 1) 16 (fun _ => 0) 26 ∧ Blk wx (w.heap.size + 1 + 1) 16 (outF f 0 i k) 26 ∧ Blk wx w3.heap.size 4 row 22 ∧ Blk wx w4.heap.size 8 (lineV 0 i) 227 ∧ Hid (Below w.heap.size w wx))
      case atStart => exact ⟨0, by omega, rfl, k1, k2, k3, k9, k11, HB5⟩
      case round =>
        obtain ⟨k, hkh, rfl, k1, k2, k3, k9, k11, hb⟩ := hrel
        cases gk with
        | zero =>
          have hk : ¬ ((k : Int) < 4) := by omega
          have HK : Hid (k = 4) := by show k = 4; omega
          clear hkh
          go_wp2_with fail
          go_roundg g
          case rel => exact ⟨i + 1, by omega, by go_num, by rw [HSS.out], k1, k2, by rw [HK.out] at k3; exact k3.congr (outF_row f 0 i), hb⟩
          case measure => omega
        | succ h =>
          have hk : (k : Int) < 4 := by omega
          have hk0 : (0 : Int) ≤ (k : Int) := by omega
          have hk4 : k < 4 := by omega
          have hp := pos_lt (d := 0) hi4 hk4
          have HR : Hid (lineV 0 i (k * 2) = ((pos 0 i k / 4 : Nat) : Int)) := lineV_row 0 i k
          have HC : Hid (lineV 0 i (k * 2 + 1) = ((pos 0 i k % 4 : Nat) : Int)) := lineV_col 0 i k
          have HP : Hid (pos 0 i k / 4 * 4 + pos 0 i k % 4 = pos 0 i k) := by show _ = _; omega
          have HO2 : Hid (∀ j, j < 16 → upd (outF f 0 i k) (pos 0 i k) (row k) j = outF f 0 i (k + 1) j) := HO.out k hk4
          generalize outF f 0 i k = o at *
          have a0 := k3.cell (i := 0) (by omega)
          have a1 := k3.cell (i := 1) (by omega)
          have a2 := k3.cell (i := 2) (by omega)
          have a3 := k3.cell (i := 3) (by omega)
          have a4 := k3.cell (i := 4) (by omega)
          have a5 := k3.cell (i := 5) (by omega)
          have a6 := k3.cell (i := 6) (by omega)
          have a7 := k3.cell (i := 7) (by omega)
          have a8 := k3.cell (i := 8) (by omega)
          have a9 := k3.cell (i := 9) (by omega)
          have a10 := k3.cell (i := 10) (by omega)
          have a11 := k3.cell (i := 11) (by omega)
          have a12 := k3.cell (i := 12) (by omega)
          have a13 := k3.cell (i := 13) (by omega)
          have a14 := k3.cell (i := 14) (by omega)
          have a15 := k3.cell (i := 15) (by omega)
          have b0 := k11.cell (i := k * 2) (by omega)
          have b1 := k11.cell (i := k * 2 + 1) (by omega)
          have b2 := k9.cell (i := k) (by omega)
          have e16 : (#[.int .i64 (o 0), .int .i64 (o 1), .int .i64 (o 2), .int .i64 (o 3), .int .i64 (o 4), .int .i64 (o 5), .int .i64 (o 6), .int .i64 (o 7), .int .i64 (o 8), .int .i64 (o 9), .int .i64 (o 10), .int .i64 (o 11), .int .i64 (o 12), .int .i64 (o 13), .int .i64 (o 14), .int .i64 (o 15)] : Array Value) = mk 16 o := rfl
          have e2 : (#[.int .i64 (lineV 0 i (k * 2)), .int .i64 (lineV 0 i (k * 2 + 1))] : Array Value) = mk 2 (two (lineV 0 i (k * 2)) (lineV 0 i (k * 2 + 1))) := rfl
          clear z4 z8 z16
          go_wp2_with fail
          go_region_with ((go_at_call 239; refine (l2Put_any _ _ (pos 0 i k / 4) (pos 0 i k % 4) _ _ HR.out HC.out (by omega) (by omega)).mono ?_; rintro e w6 ⟨rfl, hb6⟩; have hst := run_store_blk (P := Try.prog) (upd o (pos 0 i k / 4 * 4 + pos 0 i k % 4) (row k)) (k3.drew.below hb6 k3.lt)))
          all_goals
            have k1 := k1.drew.below hb6 k1.lt
            have k2 := k2.drew.below hb6 k2.lt
            have k3 := k3.drew.below hb6 k3.lt
            have k9 := k9.drew.below hb6 k9.lt
            have k11 := k11.drew.below hb6 k11.lt
            have HB6 : Hid (Below w.heap.size w w6) := hb.out.drew.trans (hb6.mono hb.out.size)
            clear hb6 hst a0 a1 a2 a3 a4 a5 a6 a7 a8 a9 a10 a11 a12 a13 a14 a15 b0 b1 b2 e16 e2 hb
            rw [HP.out]
            go_wp2_with fail
            go_roundg h
            case rel => exact ⟨k + 1, by omega, by go_num, k1.rowOther _ _ (by omega), k2.rowOther _ _ (by omega), (k3.row 16 _).congr HO2.out, k9.rowOther _ _ (by omega), k11.rowOther _ _ (by omega), below_setRow HB6.out (by omega) _⟩
            case measure => omega
set_option maxHeartbeats 2000000 in
theorem l2Slide_1 (f : Nat → Int) (w : World) (hf : Vd f) :
    Calls Try.prog 142 #[.agg (mk 16 f), .int .i64 1] w fun e w' => e = .returned (.tuple #[.agg (mk 16 (slideB f 1)), .int .i64 (slideS f 1 4)]) ∧ Below w.heap.size w w' := by
  have z16 := zero16
  have z4 := zero4
  have z8 := zero8
  have HV := Lib.hid hf
  clear hf
  have K1 := ((Blk.new w 16 f 26).alloc (.cells (mk 16 fun _ => 0) 26)).alloc (.cells (mk 16 f) 26)
  have K1' := (Blk.new w 16 f 26).alloc (.cells (mk 16 fun _ => 0) 26)
  have K2 := (Blk.new (w.alloc (.cells (mk 16 f) 26)) 16 (fun _ => 0) 26).alloc (.cells (mk 16 f) 26)
  have K3 := Blk.new ((w.alloc (.cells (mk 16 f) 26)).alloc (.cells (mk 16 fun _ => 0) 26)) 16 f 26
  have HB := Lib.hid ((((Below.refl w.heap.size w).alloc (Nat.le_refl _) (.cells (mk 16 f) 26)).alloc (by simp) (.cells (mk 16 fun _ => 0) 26)).alloc (by simp; omega) (.cells (mk 16 f) 26))
  simp only [World.size_alloc] at K2 K3
  go_enter Try.func142, Try.ntmps142
  go_wp2_with ((with_reducible show wpList _ _ _ (Oper.mk _ (Op.load 26 _) _ _ _ _ :: _) _ _); refine loadB (K1') rfl rfl rfl ?_)
  clear K1'
  generalize ((w.alloc (.cells (mk 16 f) 26)).alloc (.cells (mk 16 fun _ => 0) 26)).alloc (.cells (mk 16 f) 26) = w1 at *
  go_loopg [8, 7] 4 (fun g s8 s7 wr => ∃ i : Nat, i + g = 4 ∧ s8 = .int .i64 i ∧ s7 = .int .i64 (slideS f 1 i) ∧ Blk wr w.heap.size 16 f 26 ∧ Blk wr (w.heap.size + 1) 16 (fun _ => 0) 26 ∧ Blk wr (w.heap.size + 1 + 1) 16 (outF f 1 i 0) 26 ∧ Hid (Below w.heap.size w wr))
  case atStart => exact ⟨0, by omega, rfl, rfl, K1, K2, K3.congr fun j _ => (outF_zero f 1 j).symm, HB⟩
  case round =>
    obtain ⟨i, hig, rfl, rfl, k1, k2, k3, hb⟩ := hrel
    cases gk with
    | zero =>
      have hi : ¬ ((i : Int) < 4) := by omega
      obtain rfl : i = 4 := by omega
      clear hig hi
      go_wp2_with (first | ((with_reducible show wpList _ _ _ (Oper.mk _ (Op.load 26 _) _ _ _ _ :: _) _ _); refine loadB (k3) rfl rfl rfl ?_) | ((with_reducible show wpList _ _ _ (Oper.mk _ (Op.store 26 _ _) _ _ _ _ :: _) _ _); refine storeB (k2) rfl rfl rfl rfl ?_))
      try simp only [Exit.inBlock, Exit.then]
      refine retctB (k2.row 16 _) rfl rfl rfl ⟨?_, below_setRow hb.out (by omega) _⟩
      rw [mk_congr (outF_all f 1)]
      rfl
    | succ g =>
      have hi : (i : Int) < 4 := by omega
      have hi4 : i < 4 := by omega
      obtain ⟨s0, s1⟩ := slideS_bd HV.out 1 i (by omega)
      have HOK := Lib.hid (slid_ok (lineF_vd HV.out 1 hi4) 4 (Nat.le_refl _))
      have q0 := HOK.out.sc0
      have q1 := HOK.out.sc1
      clear HOK
      have HSS : Hid (slideS f 1 (i + 1) = slideS f 1 i + (slid (lineF f 1 i) 4).sc) := rfl
      have l1 := k1.lt
      have l3 := k3.lt
      go_wp2_with ((with_reducible show wpList _ _ _ (Oper.mk _ (Op.load 26 _) _ _ _ _ :: _) _ _); refine loadB (k1) rfl rfl rfl ?_)
      refine (l2Numbers_1 f i _ hi4).mono ?_
      rintro e w2 ⟨rfl, hb2⟩
      have k1 := k1.below hb2 k1.lt
      have k2 := k2.below hb2 k2.lt
      have k3 := k3.below hb2 k3.lt
      have HB2 : Hid (Below w.heap.size w w2) := hb.out.trans (hb2.mono hb.out.size)
      clear hb2 hb
      go_wp2_with fail
      refine (l2Row_any _ _ (lineF_vd HV.out 1 hi4)).mono ?_
      rintro e w3 ⟨rfl, hb3⟩
      have k1 := k1.below hb3 k1.lt
      have k2 := k2.below hb3 k2.lt
      have k3 := k3.below hb3 k3.lt
      have HB3 : Hid (Below w.heap.size w w3) := HB2.out.trans (hb3.mono HB2.out.size)
      clear hb3 HB2
      have HO : Hid (∀ k, k < 4 → ∀ j, j < 16 → upd (outF f 1 i k) (pos 1 i k) ((slid (lineF f 1 i) 4).row k) j = outF f 1 i (k + 1) j) := fun k hk => outF_step f 1 hi4 hk
      generalize slid (lineF f 1 i) 4 = S at *
      obtain ⟨row, n, sc, mg, op⟩ := S
      simp only [] at q0 q1 HO
      go_wp2_with fail
      refine (l2Line_1 i _ hi4).mono ?_
      rintro e w4 ⟨rfl, hb4⟩
      have k1 := (k1.alloc _).below hb4 (k1.alloc _).lt
      have k2 := (k2.alloc _).below hb4 (k2.alloc _).lt
      have k3 := (k3.alloc _).below hb4 (k3.alloc _).lt
      have l9 : w3.heap.size < w4.heap.size := by have := hb4.size; simp at this; omega
      have k9 := (Blk.new w3 4 row 22).below hb4 (by simp)
      have HB4 : Hid (Below w.heap.size w w4) := (HB3.out.alloc HB3.out.size _).trans (hb4.mono (by have := HB3.out.size; simp; omega))
      have l0 : w.heap.size + 1 + 1 < w3.heap.size := by have := HB3.out.size; have := k3.lt; have h1 := hb4.size; simp at h1; have h2 := Blk.lt (w := w3) (b := w.heap.size + 1 + 1) (by assumption); omega
      clear hb4 HB3
      go_wp2_with fail
      have k1 := k1.alloc (.cells (mk 8 (lineV 1 i)) 227)
      have k2 := k2.alloc (.cells (mk 8 (lineV 1 i)) 227)
      have k3 := k3.alloc (.cells (mk 8 (lineV 1 i)) 227)
      have k9 := k9.alloc (.cells (mk 8 (lineV 1 i)) 227)
      have k11 := Blk.new w4 8 (lineV 1 i) 227
      have HB5 : Hid (Below w.heap.size w (w4.alloc (.cells (mk 8 (lineV 1 i)) 227))) := HB4.out.alloc HB4.out.size _
      clear HB4
      generalize w4.alloc (.cells (mk 8 (lineV 1 i)) 227) = w5 at *
      go_loopg [12] 4 (fun h s12 wx => ∃ k : Nat, k + h = 4 ∧ s12 = .int .i64 k ∧ Blk wx w.heap.size 16 f 26 ∧ Blk wx (w.heap.size + 1) 16 (fun _ => 0) 26 ∧ Blk wx (w.heap.size + 1 + 1) 16 (outF f 1 i k) 26 ∧ Blk wx w3.heap.size 4 row 22 ∧ Blk wx w4.heap.size 8 (lineV 1 i) 227 ∧ Hid (Below w.heap.size w wx))
      case atStart => exact ⟨0, by omega, rfl, k1, k2, k3, k9, k11, HB5⟩
      case round =>
        obtain ⟨k, hkh, rfl, k1, k2, k3, k9, k11, hb⟩ := hrel
        cases gk with
        | zero =>
          have hk : ¬ ((k : Int) < 4) := by omega
          have HK : Hid (k = 4) := by show k = 4; omega
          clear hkh
          go_wp2_with fail
          go_roundg g
          case rel => exact ⟨i + 1, by omega, by go_num, by rw [HSS.out], k1, k2, by rw [HK.out] at k3; exact k3.congr (outF_row f 1 i), hb⟩
          case measure => omega
        | succ h =>
          have hk : (k : Int) < 4 := by omega
          have hk0 : (0 : Int) ≤ (k : Int) := by omega
          have hk4 : k < 4 := by omega
          have hp := pos_lt (d := 1) hi4 hk4
          have HR : Hid (lineV 1 i (k * 2) = ((pos 1 i k / 4 : Nat) : Int)) := lineV_row 1 i k
          have HC : Hid (lineV 1 i (k * 2 + 1) = ((pos 1 i k % 4 : Nat) : Int)) := lineV_col 1 i k
          have HP : Hid (pos 1 i k / 4 * 4 + pos 1 i k % 4 = pos 1 i k) := by show _ = _; omega
          have HO2 : Hid (∀ j, j < 16 → upd (outF f 1 i k) (pos 1 i k) (row k) j = outF f 1 i (k + 1) j) := HO.out k hk4
          generalize outF f 1 i k = o at *
          have a0 := k3.cell (i := 0) (by omega)
          have a1 := k3.cell (i := 1) (by omega)
          have a2 := k3.cell (i := 2) (by omega)
          have a3 := k3.cell (i := 3) (by omega)
          have a4 := k3.cell (i := 4) (by omega)
          have a5 := k3.cell (i := 5) (by omega)
          have a6 := k3.cell (i := 6) (by omega)
          have a7 := k3.cell (i := 7) (by omega)
          have a8 := k3.cell (i := 8) (by omega)
          have a9 := k3.cell (i := 9) (by omega)
          have a10 := k3.cell (i := 10) (by omega)
          have a11 := k3.cell (i := 11) (by omega)
          have a12 := k3.cell (i := 12) (by omega)
          have a13 := k3.cell (i := 13) (by omega)
          have a14 := k3.cell (i := 14) (by omega)
          have a15 := k3.cell (i := 15) (by omega)
          have b0 := k11.cell (i := k * 2) (by omega)
          have b1 := k11.cell (i := k * 2 + 1) (by omega)
          have b2 := k9.cell (i := k) (by omega)
          have e16 : (#[.int .i64 (o 0), .int .i64 (o 1), .int .i64 (o 2), .int .i64 (o 3), .int .i64 (o 4), .int .i64 (o 5), .int .i64 (o 6), .int .i64 (o 7), .int .i64 (o 8), .int .i64 (o 9), .int .i64 (o 10), .int .i64 (o 11), .int .i64 (o 12), .int .i64 (o 13), .int .i64 (o 14), .int .i64 (o 15)] : Array Value) = mk 16 o := rfl
          have e2 : (#[.int .i64 (lineV 1 i (k * 2)), .int .i64 (lineV 1 i (k * 2 + 1))] : Array Value) = mk 2 (two (lineV 1 i (k * 2)) (lineV 1 i (k * 2 + 1))) := rfl
          clear z4 z8 z16
          go_wp2_with fail
          go_region_with ((go_at_call 239; refine (l2Put_any _ _ (pos 1 i k / 4) (pos 1 i k % 4) _ _ HR.out HC.out (by omega) (by omega)).mono ?_; rintro e w6 ⟨rfl, hb6⟩; have hst := run_store_blk (P := Try.prog) (upd o (pos 1 i k / 4 * 4 + pos 1 i k % 4) (row k)) (k3.drew.below hb6 k3.lt)))
          all_goals
            have k1 := k1.drew.below hb6 k1.lt
            have k2 := k2.drew.below hb6 k2.lt
            have k3 := k3.drew.below hb6 k3.lt
            have k9 := k9.drew.below hb6 k9.lt
            have k11 := k11.drew.below hb6 k11.lt
            have HB6 : Hid (Below w.heap.size w w6) := hb.out.drew.trans (hb6.mono hb.out.size)
            clear hb6 hst a0 a1 a2 a3 a4 a5 a6 a7 a8 a9 a10 a11 a12 a13 a14 a15 b0 b1 b2 e16 e2 hb
            rw [HP.out]
            go_wp2_with fail
            go_roundg h
            case rel => exact ⟨k + 1, by omega, by go_num, k1.rowOther _ _ (by omega), k2.rowOther _ _ (by omega), (k3.row 16 _).congr HO2.out, k9.rowOther _ _ (by omega), k11.rowOther _ _ (by omega), below_setRow HB6.out (by omega) _⟩
            case measure => omega
set_option maxHeartbeats 2000000 in
theorem l2Slide_2 (f : Nat → Int) (w : World) (hf : Vd f) :
    Calls Try.prog 142 #[.agg (mk 16 f), .int .i64 2] w fun e w' => e = .returned (.tuple #[.agg (mk 16 (slideB f 2)), .int .i64 (slideS f 2 4)]) ∧ Below w.heap.size w w' := by
  have z16 := zero16
  have z4 := zero4
  have z8 := zero8
  have HV := Lib.hid hf
  clear hf
  have K1 := ((Blk.new w 16 f 26).alloc (.cells (mk 16 fun _ => 0) 26)).alloc (.cells (mk 16 f) 26)
  have K1' := (Blk.new w 16 f 26).alloc (.cells (mk 16 fun _ => 0) 26)
  have K2 := (Blk.new (w.alloc (.cells (mk 16 f) 26)) 16 (fun _ => 0) 26).alloc (.cells (mk 16 f) 26)
  have K3 := Blk.new ((w.alloc (.cells (mk 16 f) 26)).alloc (.cells (mk 16 fun _ => 0) 26)) 16 f 26
  have HB := Lib.hid ((((Below.refl w.heap.size w).alloc (Nat.le_refl _) (.cells (mk 16 f) 26)).alloc (by simp) (.cells (mk 16 fun _ => 0) 26)).alloc (by simp; omega) (.cells (mk 16 f) 26))
  simp only [World.size_alloc] at K2 K3
  go_enter Try.func142, Try.ntmps142
  go_wp2_with ((with_reducible show wpList _ _ _ (Oper.mk _ (Op.load 26 _) _ _ _ _ :: _) _ _); refine loadB (K1') rfl rfl rfl ?_)
  clear K1'
  generalize ((w.alloc (.cells (mk 16 f) 26)).alloc (.cells (mk 16 fun _ => 0) 26)).alloc (.cells (mk 16 f) 26) = w1 at *
  go_loopg [8, 7] 4 (fun g s8 s7 wr => ∃ i : Nat, i + g = 4 ∧ s8 = .int .i64 i ∧ s7 = .int .i64 (slideS f 2 i) ∧ Blk wr w.heap.size 16 f 26 ∧ Blk wr (w.heap.size + 1) 16 (fun _ => 0) 26 ∧ Blk wr (w.heap.size + 1 + 1) 16 (outF f 2 i 0) 26 ∧ Hid (Below w.heap.size w wr))
  case atStart => exact ⟨0, by omega, rfl, rfl, K1, K2, K3.congr fun j _ => (outF_zero f 2 j).symm, HB⟩
  case round =>
    obtain ⟨i, hig, rfl, rfl, k1, k2, k3, hb⟩ := hrel
    cases gk with
    | zero =>
      have hi : ¬ ((i : Int) < 4) := by omega
      obtain rfl : i = 4 := by omega
      clear hig hi
      go_wp2_with (first | ((with_reducible show wpList _ _ _ (Oper.mk _ (Op.load 26 _) _ _ _ _ :: _) _ _); refine loadB (k3) rfl rfl rfl ?_) | ((with_reducible show wpList _ _ _ (Oper.mk _ (Op.store 26 _ _) _ _ _ _ :: _) _ _); refine storeB (k2) rfl rfl rfl rfl ?_))
      try simp only [Exit.inBlock, Exit.then]
      refine retctB (k2.row 16 _) rfl rfl rfl ⟨?_, below_setRow hb.out (by omega) _⟩
      rw [mk_congr (outF_all f 2)]
      rfl
    | succ g =>
      have hi : (i : Int) < 4 := by omega
      have hi4 : i < 4 := by omega
      obtain ⟨s0, s1⟩ := slideS_bd HV.out 2 i (by omega)
      have HOK := Lib.hid (slid_ok (lineF_vd HV.out 2 hi4) 4 (Nat.le_refl _))
      have q0 := HOK.out.sc0
      have q1 := HOK.out.sc1
      clear HOK
      have HSS : Hid (slideS f 2 (i + 1) = slideS f 2 i + (slid (lineF f 2 i) 4).sc) := rfl
      have l1 := k1.lt
      have l3 := k3.lt
      go_wp2_with ((with_reducible show wpList _ _ _ (Oper.mk _ (Op.load 26 _) _ _ _ _ :: _) _ _); refine loadB (k1) rfl rfl rfl ?_)
      refine (l2Numbers_2 f i _ hi4).mono ?_
      rintro e w2 ⟨rfl, hb2⟩
      have k1 := k1.below hb2 k1.lt
      have k2 := k2.below hb2 k2.lt
      have k3 := k3.below hb2 k3.lt
      have HB2 : Hid (Below w.heap.size w w2) := hb.out.trans (hb2.mono hb.out.size)
      clear hb2 hb
      go_wp2_with fail
      refine (l2Row_any _ _ (lineF_vd HV.out 2 hi4)).mono ?_
      rintro e w3 ⟨rfl, hb3⟩
      have k1 := k1.below hb3 k1.lt
      have k2 := k2.below hb3 k2.lt
      have k3 := k3.below hb3 k3.lt
      have HB3 : Hid (Below w.heap.size w w3) := HB2.out.trans (hb3.mono HB2.out.size)
      clear hb3 HB2
      have HO : Hid (∀ k, k < 4 → ∀ j, j < 16 → upd (outF f 2 i k) (pos 2 i k) ((slid (lineF f 2 i) 4).row k) j = outF f 2 i (k + 1) j) := fun k hk => outF_step f 2 hi4 hk
      generalize slid (lineF f 2 i) 4 = S at *
      obtain ⟨row, n, sc, mg, op⟩ := S
      simp only [] at q0 q1 HO
      go_wp2_with fail
      refine (l2Line_2 i _ hi4).mono ?_
      rintro e w4 ⟨rfl, hb4⟩
      have k1 := (k1.alloc _).below hb4 (k1.alloc _).lt
      have k2 := (k2.alloc _).below hb4 (k2.alloc _).lt
      have k3 := (k3.alloc _).below hb4 (k3.alloc _).lt
      have l9 : w3.heap.size < w4.heap.size := by have := hb4.size; simp at this; omega
      have k9 := (Blk.new w3 4 row 22).below hb4 (by simp)
      have HB4 : Hid (Below w.heap.size w w4) := (HB3.out.alloc HB3.out.size _).trans (hb4.mono (by have := HB3.out.size; simp; omega))
      have l0 : w.heap.size + 1 + 1 < w3.heap.size := by have := HB3.out.size; have := k3.lt; have h1 := hb4.size; simp at h1; have h2 := Blk.lt (w := w3) (b := w.heap.size + 1 + 1) (by assumption); omega
      clear hb4 HB3
      go_wp2_with fail
      have k1 := k1.alloc (.cells (mk 8 (lineV 2 i)) 227)
      have k2 := k2.alloc (.cells (mk 8 (lineV 2 i)) 227)
      have k3 := k3.alloc (.cells (mk 8 (lineV 2 i)) 227)
      have k9 := k9.alloc (.cells (mk 8 (lineV 2 i)) 227)
      have k11 := Blk.new w4 8 (lineV 2 i) 227
      have HB5 : Hid (Below w.heap.size w (w4.alloc (.cells (mk 8 (lineV 2 i)) 227))) := HB4.out.alloc HB4.out.size _
      clear HB4
      generalize w4.alloc (.cells (mk 8 (lineV 2 i)) 227) = w5 at *
      go_loopg [12] 4 (fun h s12 wx => ∃ k : Nat, k + h = 4 ∧ s12 = .int .i64 k ∧ Blk wx w.heap.size 16 f 26 ∧ Blk wx (w.heap.size + 1) 16 (fun _ => 0) 26 ∧ Blk wx (w.heap.size + 1 + 1) 16 (outF f 2 i k) 26 ∧ Blk wx w3.heap.size 4 row 22 ∧ Blk wx w4.heap.size 8 (lineV 2 i) 227 ∧ Hid (Below w.heap.size w wx))
      case atStart => exact ⟨0, by omega, rfl, k1, k2, k3, k9, k11, HB5⟩
      case round =>
        obtain ⟨k, hkh, rfl, k1, k2, k3, k9, k11, hb⟩ := hrel
        cases gk with
        | zero =>
          have hk : ¬ ((k : Int) < 4) := by omega
          have HK : Hid (k = 4) := by show k = 4; omega
          clear hkh
          go_wp2_with fail
          go_roundg g
          case rel => exact ⟨i + 1, by omega, by go_num, by rw [HSS.out], k1, k2, by rw [HK.out] at k3; exact k3.congr (outF_row f 2 i), hb⟩
          case measure => omega
        | succ h =>
          have hk : (k : Int) < 4 := by omega
          have hk0 : (0 : Int) ≤ (k : Int) := by omega
          have hk4 : k < 4 := by omega
          have hp := pos_lt (d := 2) hi4 hk4
          have HR : Hid (lineV 2 i (k * 2) = ((pos 2 i k / 4 : Nat) : Int)) := lineV_row 2 i k
          have HC : Hid (lineV 2 i (k * 2 + 1) = ((pos 2 i k % 4 : Nat) : Int)) := lineV_col 2 i k
          have HP : Hid (pos 2 i k / 4 * 4 + pos 2 i k % 4 = pos 2 i k) := by show _ = _; omega
          have HO2 : Hid (∀ j, j < 16 → upd (outF f 2 i k) (pos 2 i k) (row k) j = outF f 2 i (k + 1) j) := HO.out k hk4
          generalize outF f 2 i k = o at *
          have a0 := k3.cell (i := 0) (by omega)
          have a1 := k3.cell (i := 1) (by omega)
          have a2 := k3.cell (i := 2) (by omega)
          have a3 := k3.cell (i := 3) (by omega)
          have a4 := k3.cell (i := 4) (by omega)
          have a5 := k3.cell (i := 5) (by omega)
          have a6 := k3.cell (i := 6) (by omega)
          have a7 := k3.cell (i := 7) (by omega)
          have a8 := k3.cell (i := 8) (by omega)
          have a9 := k3.cell (i := 9) (by omega)
          have a10 := k3.cell (i := 10) (by omega)
          have a11 := k3.cell (i := 11) (by omega)
          have a12 := k3.cell (i := 12) (by omega)
          have a13 := k3.cell (i := 13) (by omega)
          have a14 := k3.cell (i := 14) (by omega)
          have a15 := k3.cell (i := 15) (by omega)
          have b0 := k11.cell (i := k * 2) (by omega)
          have b1 := k11.cell (i := k * 2 + 1) (by omega)
          have b2 := k9.cell (i := k) (by omega)
          have e16 : (#[.int .i64 (o 0), .int .i64 (o 1), .int .i64 (o 2), .int .i64 (o 3), .int .i64 (o 4), .int .i64 (o 5), .int .i64 (o 6), .int .i64 (o 7), .int .i64 (o 8), .int .i64 (o 9), .int .i64 (o 10), .int .i64 (o 11), .int .i64 (o 12), .int .i64 (o 13), .int .i64 (o 14), .int .i64 (o 15)] : Array Value) = mk 16 o := rfl
          have e2 : (#[.int .i64 (lineV 2 i (k * 2)), .int .i64 (lineV 2 i (k * 2 + 1))] : Array Value) = mk 2 (two (lineV 2 i (k * 2)) (lineV 2 i (k * 2 + 1))) := rfl
          clear z4 z8 z16
          go_wp2_with fail
          go_region_with ((go_at_call 239; refine (l2Put_any _ _ (pos 2 i k / 4) (pos 2 i k % 4) _ _ HR.out HC.out (by omega) (by omega)).mono ?_; rintro e w6 ⟨rfl, hb6⟩; have hst := run_store_blk (P := Try.prog) (upd o (pos 2 i k / 4 * 4 + pos 2 i k % 4) (row k)) (k3.drew.below hb6 k3.lt)))
          all_goals
            have k1 := k1.drew.below hb6 k1.lt
            have k2 := k2.drew.below hb6 k2.lt
            have k3 := k3.drew.below hb6 k3.lt
            have k9 := k9.drew.below hb6 k9.lt
            have k11 := k11.drew.below hb6 k11.lt
            have HB6 : Hid (Below w.heap.size w w6) := hb.out.drew.trans (hb6.mono hb.out.size)
            clear hb6 hst a0 a1 a2 a3 a4 a5 a6 a7 a8 a9 a10 a11 a12 a13 a14 a15 b0 b1 b2 e16 e2 hb
            rw [HP.out]
            go_wp2_with fail
            go_roundg h
            case rel => exact ⟨k + 1, by omega, by go_num, k1.rowOther _ _ (by omega), k2.rowOther _ _ (by omega), (k3.row 16 _).congr HO2.out, k9.rowOther _ _ (by omega), k11.rowOther _ _ (by omega), below_setRow HB6.out (by omega) _⟩
            case measure => omega
set_option maxHeartbeats 2000000 in
theorem l2Slide_3 (f : Nat → Int) (w : World) (hf : Vd f) :
    Calls Try.prog 142 #[.agg (mk 16 f), .int .i64 3] w fun e w' => e = .returned (.tuple #[.agg (mk 16 (slideB f 3)), .int .i64 (slideS f 3 4)]) ∧ Below w.heap.size w w' := by
  have z16 := zero16
  have z4 := zero4
  have z8 := zero8
  have HV := Lib.hid hf
  clear hf
  have K1 := ((Blk.new w 16 f 26).alloc (.cells (mk 16 fun _ => 0) 26)).alloc (.cells (mk 16 f) 26)
  have K1' := (Blk.new w 16 f 26).alloc (.cells (mk 16 fun _ => 0) 26)
  have K2 := (Blk.new (w.alloc (.cells (mk 16 f) 26)) 16 (fun _ => 0) 26).alloc (.cells (mk 16 f) 26)
  have K3 := Blk.new ((w.alloc (.cells (mk 16 f) 26)).alloc (.cells (mk 16 fun _ => 0) 26)) 16 f 26
  have HB := Lib.hid ((((Below.refl w.heap.size w).alloc (Nat.le_refl _) (.cells (mk 16 f) 26)).alloc (by simp) (.cells (mk 16 fun _ => 0) 26)).alloc (by simp; omega) (.cells (mk 16 f) 26))
  simp only [World.size_alloc] at K2 K3
  go_enter Try.func142, Try.ntmps142
  go_wp2_with ((with_reducible show wpList _ _ _ (Oper.mk _ (Op.load 26 _) _ _ _ _ :: _) _ _); refine loadB (K1') rfl rfl rfl ?_)
  clear K1'
  generalize ((w.alloc (.cells (mk 16 f) 26)).alloc (.cells (mk 16 fun _ => 0) 26)).alloc (.cells (mk 16 f) 26) = w1 at *
  go_loopg [8, 7] 4 (fun g s8 s7 wr => ∃ i : Nat, i + g = 4 ∧ s8 = .int .i64 i ∧ s7 = .int .i64 (slideS f 3 i) ∧ Blk wr w.heap.size 16 f 26 ∧ Blk wr (w.heap.size + 1) 16 (fun _ => 0) 26 ∧ Blk wr (w.heap.size + 1 + 1) 16 (outF f 3 i 0) 26 ∧ Hid (Below w.heap.size w wr))
  case atStart => exact ⟨0, by omega, rfl, rfl, K1, K2, K3.congr fun j _ => (outF_zero f 3 j).symm, HB⟩
  case round =>
    obtain ⟨i, hig, rfl, rfl, k1, k2, k3, hb⟩ := hrel
    cases gk with
    | zero =>
      have hi : ¬ ((i : Int) < 4) := by omega
      obtain rfl : i = 4 := by omega
      clear hig hi
      go_wp2_with (first | ((with_reducible show wpList _ _ _ (Oper.mk _ (Op.load 26 _) _ _ _ _ :: _) _ _); refine loadB (k3) rfl rfl rfl ?_) | ((with_reducible show wpList _ _ _ (Oper.mk _ (Op.store 26 _ _) _ _ _ _ :: _) _ _); refine storeB (k2) rfl rfl rfl rfl ?_))
      try simp only [Exit.inBlock, Exit.then]
      refine retctB (k2.row 16 _) rfl rfl rfl ⟨?_, below_setRow hb.out (by omega) _⟩
      rw [mk_congr (outF_all f 3)]
      rfl
    | succ g =>
      have hi : (i : Int) < 4 := by omega
      have hi4 : i < 4 := by omega
      obtain ⟨s0, s1⟩ := slideS_bd HV.out 3 i (by omega)
      have HOK := Lib.hid (slid_ok (lineF_vd HV.out 3 hi4) 4 (Nat.le_refl _))
      have q0 := HOK.out.sc0
      have q1 := HOK.out.sc1
      clear HOK
      have HSS : Hid (slideS f 3 (i + 1) = slideS f 3 i + (slid (lineF f 3 i) 4).sc) := rfl
      have l1 := k1.lt
      have l3 := k3.lt
      go_wp2_with ((with_reducible show wpList _ _ _ (Oper.mk _ (Op.load 26 _) _ _ _ _ :: _) _ _); refine loadB (k1) rfl rfl rfl ?_)
      refine (l2Numbers_3 f i _ hi4).mono ?_
      rintro e w2 ⟨rfl, hb2⟩
      have k1 := k1.below hb2 k1.lt
      have k2 := k2.below hb2 k2.lt
      have k3 := k3.below hb2 k3.lt
      have HB2 : Hid (Below w.heap.size w w2) := hb.out.trans (hb2.mono hb.out.size)
      clear hb2 hb
      go_wp2_with fail
      refine (l2Row_any _ _ (lineF_vd HV.out 3 hi4)).mono ?_
      rintro e w3 ⟨rfl, hb3⟩
      have k1 := k1.below hb3 k1.lt
      have k2 := k2.below hb3 k2.lt
      have k3 := k3.below hb3 k3.lt
      have HB3 : Hid (Below w.heap.size w w3) := HB2.out.trans (hb3.mono HB2.out.size)
      clear hb3 HB2
      have HO : Hid (∀ k, k < 4 → ∀ j, j < 16 → upd (outF f 3 i k) (pos 3 i k) ((slid (lineF f 3 i) 4).row k) j = outF f 3 i (k + 1) j) := fun k hk => outF_step f 3 hi4 hk
      generalize slid (lineF f 3 i) 4 = S at *
      obtain ⟨row, n, sc, mg, op⟩ := S
      simp only [] at q0 q1 HO
      go_wp2_with fail
      refine (l2Line_3 i _ hi4).mono ?_
      rintro e w4 ⟨rfl, hb4⟩
      have k1 := (k1.alloc _).below hb4 (k1.alloc _).lt
      have k2 := (k2.alloc _).below hb4 (k2.alloc _).lt
      have k3 := (k3.alloc _).below hb4 (k3.alloc _).lt
      have l9 : w3.heap.size < w4.heap.size := by have := hb4.size; simp at this; omega
      have k9 := (Blk.new w3 4 row 22).below hb4 (by simp)
      have HB4 : Hid (Below w.heap.size w w4) := (HB3.out.alloc HB3.out.size _).trans (hb4.mono (by have := HB3.out.size; simp; omega))
      have l0 : w.heap.size + 1 + 1 < w3.heap.size := by have := HB3.out.size; have := k3.lt; have h1 := hb4.size; simp at h1; have h2 := Blk.lt (w := w3) (b := w.heap.size + 1 + 1) (by assumption); omega
      clear hb4 HB3
      go_wp2_with fail
      have k1 := k1.alloc (.cells (mk 8 (lineV 3 i)) 227)
      have k2 := k2.alloc (.cells (mk 8 (lineV 3 i)) 227)
      have k3 := k3.alloc (.cells (mk 8 (lineV 3 i)) 227)
      have k9 := k9.alloc (.cells (mk 8 (lineV 3 i)) 227)
      have k11 := Blk.new w4 8 (lineV 3 i) 227
      have HB5 : Hid (Below w.heap.size w (w4.alloc (.cells (mk 8 (lineV 3 i)) 227))) := HB4.out.alloc HB4.out.size _
      clear HB4
      generalize w4.alloc (.cells (mk 8 (lineV 3 i)) 227) = w5 at *
      go_loopg [12] 4 (fun h s12 wx => ∃ k : Nat, k + h = 4 ∧ s12 = .int .i64 k ∧ Blk wx w.heap.size 16 f 26 ∧ Blk wx (w.heap.size + 1) 16 (fun _ => 0) 26 ∧ Blk wx (w.heap.size + 1 + 1) 16 (outF f 3 i k) 26 ∧ Blk wx w3.heap.size 4 row 22 ∧ Blk wx w4.heap.size 8 (lineV 3 i) 227 ∧ Hid (Below w.heap.size w wx))
      case atStart => exact ⟨0, by omega, rfl, k1, k2, k3, k9, k11, HB5⟩
      case round =>
        obtain ⟨k, hkh, rfl, k1, k2, k3, k9, k11, hb⟩ := hrel
        cases gk with
        | zero =>
          have hk : ¬ ((k : Int) < 4) := by omega
          have HK : Hid (k = 4) := by show k = 4; omega
          clear hkh
          go_wp2_with fail
          go_roundg g
          case rel => exact ⟨i + 1, by omega, by go_num, by rw [HSS.out], k1, k2, by rw [HK.out] at k3; exact k3.congr (outF_row f 3 i), hb⟩
          case measure => omega
        | succ h =>
          have hk : (k : Int) < 4 := by omega
          have hk0 : (0 : Int) ≤ (k : Int) := by omega
          have hk4 : k < 4 := by omega
          have hp := pos_lt (d := 3) hi4 hk4
          have HR : Hid (lineV 3 i (k * 2) = ((pos 3 i k / 4 : Nat) : Int)) := lineV_row 3 i k
          have HC : Hid (lineV 3 i (k * 2 + 1) = ((pos 3 i k % 4 : Nat) : Int)) := lineV_col 3 i k
          have HP : Hid (pos 3 i k / 4 * 4 + pos 3 i k % 4 = pos 3 i k) := by show _ = _; omega
          have HO2 : Hid (∀ j, j < 16 → upd (outF f 3 i k) (pos 3 i k) (row k) j = outF f 3 i (k + 1) j) := HO.out k hk4
          generalize outF f 3 i k = o at *
          have a0 := k3.cell (i := 0) (by omega)
          have a1 := k3.cell (i := 1) (by omega)
          have a2 := k3.cell (i := 2) (by omega)
          have a3 := k3.cell (i := 3) (by omega)
          have a4 := k3.cell (i := 4) (by omega)
          have a5 := k3.cell (i := 5) (by omega)
          have a6 := k3.cell (i := 6) (by omega)
          have a7 := k3.cell (i := 7) (by omega)
          have a8 := k3.cell (i := 8) (by omega)
          have a9 := k3.cell (i := 9) (by omega)
          have a10 := k3.cell (i := 10) (by omega)
          have a11 := k3.cell (i := 11) (by omega)
          have a12 := k3.cell (i := 12) (by omega)
          have a13 := k3.cell (i := 13) (by omega)
          have a14 := k3.cell (i := 14) (by omega)
          have a15 := k3.cell (i := 15) (by omega)
          have b0 := k11.cell (i := k * 2) (by omega)
          have b1 := k11.cell (i := k * 2 + 1) (by omega)
          have b2 := k9.cell (i := k) (by omega)
          have e16 : (#[.int .i64 (o 0), .int .i64 (o 1), .int .i64 (o 2), .int .i64 (o 3), .int .i64 (o 4), .int .i64 (o 5), .int .i64 (o 6), .int .i64 (o 7), .int .i64 (o 8), .int .i64 (o 9), .int .i64 (o 10), .int .i64 (o 11), .int .i64 (o 12), .int .i64 (o 13), .int .i64 (o 14), .int .i64 (o 15)] : Array Value) = mk 16 o := rfl
          have e2 : (#[.int .i64 (lineV 3 i (k * 2)), .int .i64 (lineV 3 i (k * 2 + 1))] : Array Value) = mk 2 (two (lineV 3 i (k * 2)) (lineV 3 i (k * 2 + 1))) := rfl
          clear z4 z8 z16
          go_wp2_with fail
          go_region_with ((go_at_call 239; refine (l2Put_any _ _ (pos 3 i k / 4) (pos 3 i k % 4) _ _ HR.out HC.out (by omega) (by omega)).mono ?_; rintro e w6 ⟨rfl, hb6⟩; have hst := run_store_blk (P := Try.prog) (upd o (pos 3 i k / 4 * 4 + pos 3 i k % 4) (row k)) (k3.drew.below hb6 k3.lt)))
          all_goals
            have k1 := k1.drew.below hb6 k1.lt
            have k2 := k2.drew.below hb6 k2.lt
            have k3 := k3.drew.below hb6 k3.lt
            have k9 := k9.drew.below hb6 k9.lt
            have k11 := k11.drew.below hb6 k11.lt
            have HB6 : Hid (Below w.heap.size w w6) := hb.out.drew.trans (hb6.mono hb.out.size)
            clear hb6 hst a0 a1 a2 a3 a4 a5 a6 a7 a8 a9 a10 a11 a12 a13 a14 a15 b0 b1 b2 e16 e2 hb
            rw [HP.out]
            go_wp2_with fail
            go_roundg h
            case rel => exact ⟨k + 1, by omega, by go_num, k1.rowOther _ _ (by omega), k2.rowOther _ _ (by omega), (k3.row 16 _).congr HO2.out, k9.rowOther _ _ (by omega), k11.rowOther _ _ (by omega), below_setRow HB6.out (by omega) _⟩
            case measure => omega
theorem l2Slide_any (f : Nat → Int) (d : Int) (w : World) (hf : Vd f) (h0 : 0 ≤ d) (h1 : d ≤ 3) :
    Calls Try.prog 142 #[.agg (mk 16 f), .int .i64 d] w fun e w' => e = .returned (.tuple #[.agg (mk 16 (slideB f d.toNat)), .int .i64 (slideS f d.toNat 4)]) ∧ Below w.heap.size w w' := by
  rcases (by omega : d = 0 ∨ d = 1 ∨ d = 2 ∨ d = 3) with rfl | rfl | rfl | rfl
  · exact l2Slide_0 f w hf
  · exact l2Slide_1 f w hf
  · exact l2Slide_2 f w hf
  · exact l2Slide_3 f w hf
end Go.Proofs.Ytfjpdopljmilpaa
