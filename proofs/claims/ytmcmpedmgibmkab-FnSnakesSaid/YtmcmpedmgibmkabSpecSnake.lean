/-
  The contracts of the cells of a snake in the reference: l7Snake and SnakePath, for every number.
-/
import Derived.Test.YtmcmpedmgibmkabPathK
import Derived.Test.YtmcmpedmgibmkabSpecMade
import Derived.Test.YtmcmpedmgibmkabSnakePlain
namespace Go.Proofs.Ytmcmpedmgibmkab
open Go.RowKit Plain
attribute [local go_sem] store_new
set_option linter.unusedVariables false
set_option linter.unusedSimpArgs false
theorem lay_patch (f : Nat → Int) (o : Nat) (x y : Int) (j : Nat) : patch f o 2 (two x y) j = lay2 f o x y j := by
  unfold patch lay2 two
  by_cases h : o ≤ j ∧ j < o + 2
  · rw [if_pos h]
    rcases (by omega : j = o ∨ j = o + 1) with e | e
    · rw [if_pos (by omega), if_pos e]
    · rw [if_neg (by omega), if_neg (by omega), if_pos e]
  · rw [if_neg h, if_neg (by omega), if_neg (by omega)]
set_option maxHeartbeats 4000000 in
set_option maxRecDepth 20000 in
theorem l7Snake_any (k : Nat) (w : World) (hk : k < 8) :
    Calls Try.prog 28 #[.int .i64 (k : Int)] w fun e w' => e = .returned (.agg (mk 32 (spF k))) ∧ Below w.heap.size w w' := by
  have z16 := zero16
  have z32 := zero32
  have HMD := Lib.hid (fun f w => l3Made_any f k w hk)
  have HSM := Lib.hid (fun j (hj : j < 16) => sn_mark hk hj)
  have HSP : Hid (mk 32 (snF k 16) = mk 32 (spF k)) := mk_congr fun j hj => sn_path hk hj
  have HST : Hid (∀ m, snF k (m + 1) = lay2 (snF k m) ((formF (mkF 16) k m).toNat * 2) ((m / 4 : Nat) : Int) ((m % 4 : Nat) : Int)) := fun m => rfl
  clear hk
  have K2 := ((Blk.new w 32 (fun _ => 0) 23).alloc (.cells (mk 16 fun _ => 0) 35)).alloc (.cells (mk 32 fun _ => 0) 23)
  have K3 := (Blk.new (w.alloc (.cells (mk 32 fun _ => 0) 23)) 16 (fun _ => 0) 35).alloc (.cells (mk 32 fun _ => 0) 23)
  have K4 := Blk.new ((w.alloc (.cells (mk 32 fun _ => 0) 23)).alloc (.cells (mk 16 fun _ => 0) 35)) 32 (fun _ => 0) 23
  have HB := Lib.hid ((((Below.refl w.heap.size w).alloc (Nat.le_refl _) (.cells (mk 32 fun _ => 0) 23)).alloc (by simp) (.cells (mk 16 fun _ => 0) 35)).alloc (by simp; omega) (.cells (mk 32 fun _ => 0) 23))
  simp only [World.size_alloc] at K3 K4
  have K3s := K3.row 16 fun _ => 0
  have K4s := K4.rowOther (w.heap.size + 1) (mk 16 fun _ => 0) (by omega)
  go_enter Try.func28, Try.ntmps28
  go_wp2_with (first | ((with_reducible show wpList _ _ _ (Oper.mk _ (Op.store 35 _ _) _ _ _ _ :: _) _ _); refine storeB (K3) rfl rfl rfl rfl ?_) | ((with_reducible show wpList _ _ _ (Oper.mk _ (Op.store 23 _ _) _ _ _ _ :: _) _ _); refine storeP (K4s) rfl rfl rfl rfl ?_))
  have HB : Hid (Below w.heap.size w (((((w.alloc (.cells (mk 32 fun _ => 0) 23)).alloc (.cells (mk 16 fun _ => 0) 35)).alloc (.cells (mk 32 fun _ => 0) 23)).setRow (w.heap.size + 1) (mk 16 fun _ => 0)).setRow (w.heap.size + 1 + 1) (mk 32 fun _ => 0))) := below_setRow (below_setRow HB.out (by omega) _) (by omega) _
  have K2 := (K2.rowOther (w.heap.size + 1) (mk 16 fun _ => 0) (by omega)).rowOther (w.heap.size + 1 + 1) (mk 32 fun _ => 0) (by omega)
  have K3 := K3s.rowOther (w.heap.size + 1 + 1) (mk 32 fun _ => 0) (by omega)
  have K4 := K4s.row 32 fun _ => 0
  clear K3s K4s z16 z32
  generalize ((((w.alloc (.cells (mk 32 fun _ => 0) 23)).alloc (.cells (mk 16 fun _ => 0) 35)).alloc (.cells (mk 32 fun _ => 0) 23)).setRow (w.heap.size + 1) (mk 16 fun _ => 0)).setRow (w.heap.size + 1 + 1) (mk 32 fun _ => 0) = w1 at *
  go_loopg [5] 16 (fun g s5 wr => ∃ i : Nat, i + g = 16 ∧ s5 = .int .i64 i ∧ Blk wr (w.heap.size + 1) 16 (mkF i) 35 ∧ Blk wr (w.heap.size + 1 + 1) 32 (fun _ => 0) 23 ∧ Blk wr w.heap.size 32 (fun _ => 0) 23 ∧ Hid (Below w.heap.size w wr))
  case atStart => exact ⟨0, by omega, rfl, K3, K4, K2, HB⟩
  case round =>
    clear K2 K3 K4 HB
    obtain ⟨i, hig, rfl, K3, K4, K2, HB⟩ := hrel
    cases gk with
    | zero =>
      have hd : ¬ ((i : Int) < 16) := by omega
      obtain rfl : i = 16 := by omega
      clear hig
      generalize mkF 16 = F at *
      go_wp2_with ((with_reducible show wpList _ _ _ (Oper.mk _ (Op.load 35 _) _ _ _ _ :: _) _ _); refine loadB (K3) rfl rfl rfl ?_)
      refine (HMD.out F _).mono ?_
      rintro e w2 ⟨rfl, hb⟩
      have K2 := K2.below hb K2.lt
      have K3 := K3.below hb K3.lt
      have K4 := K4.below hb K4.lt
      have HB : Hid (Below w.heap.size w w2) := HB.out.trans (hb.mono HB.out.size)
      clear hb
      go_wp2_with ((with_reducible show wpList _ _ _ (Oper.mk _ (Op.store 35 _ _) _ _ _ _ :: _) _ _); refine storeB (K3) rfl rfl rfl rfl ?_)
      have K2 := K2.rowOther (w.heap.size + 1) (mk 16 (formF F k)) (by omega)
      have K4 := K4.rowOther (w.heap.size + 1) (mk 16 (formF F k)) (by omega)
      have K3 := K3.row 16 (formF F k)
      have HB : Hid (Below w.heap.size w (w2.setRow (w.heap.size + 1) (mk 16 (formF F k)))) := below_setRow HB.out (by omega) _
      generalize w2.setRow (w.heap.size + 1) (mk 16 (formF F k)) = w3 at *
      go_loopg [8] 4 (fun g s8 wr => ∃ r : Nat, r + g = 4 ∧ s8 = .int .i64 r ∧ Blk wr (w.heap.size + 1) 16 (formF F k) 35 ∧ Blk wr (w.heap.size + 1 + 1) 32 (snF k (r * 4)) 23 ∧ Blk wr w.heap.size 32 (fun _ => 0) 23 ∧ Hid (Below w.heap.size w wr))
      case atStart => exact ⟨0, by omega, rfl, K3, K4, K2, HB⟩
      case round =>
        clear K2 K3 K4 HB
        obtain ⟨r, hrg, rfl, K3, K4, K2, HB⟩ := hrel
        cases gk with
        | zero =>
          have hd : ¬ ((r : Int) < 4) := by omega
          obtain rfl : r = 4 := by omega
          clear hrg
          go_wp2_with (first | ((with_reducible show wpList _ _ _ (Oper.mk _ (Op.load 23 _) _ _ _ _ :: _) _ _); refine loadP (K4) rfl rfl rfl ?_) | ((with_reducible show wpList _ _ _ (Oper.mk _ (Op.store 23 _ _) _ _ _ _ :: _) _ _); refine storeP (K2) rfl rfl rfl rfl ?_))
          try simp only [Exit.inBlock, Exit.then]
          rw [← HSP.out]
          exact retcP (K2.row 32 _) rfl rfl rfl ⟨rfl, below_setRow HB.out (Nat.le_refl _) _⟩
        | succ g =>
          have hr4 : (r : Int) < 4 := by omega
          have hr0 : (0 : Int) ≤ (r : Int) := by omega
          go_wp2_with fail
          go_loopg [9] 4 (fun h s9 wr => ∃ c : Nat, c + h = 4 ∧ s9 = .int .i64 c ∧ Blk wr (w.heap.size + 1) 16 (formF F k) 35 ∧ Blk wr (w.heap.size + 1 + 1) 32 (snF k (r * 4 + c)) 23 ∧ Blk wr w.heap.size 32 (fun _ => 0) 23 ∧ Hid (Below w.heap.size w wr))
          case atStart => exact ⟨0, by omega, rfl, K3, K4, K2, HB⟩
          case round =>
            clear K2 K3 K4 HB
            obtain ⟨c, hch, rfl, K3, K4, K2, HB⟩ := hrel
            cases gk with
            | zero =>
              have hd : ¬ ((c : Int) < 4) := by omega
              obtain rfl : c = 4 := by omega
              clear hch
              go_wp2_with fail
              go_roundg g
              case rel => exact ⟨r + 1, by omega, by go_num, K3, by rw [show (r + 1) * 4 = r * 4 + 4 by omega]; exact K4, K2, HB⟩
              case measure => omega
            | succ h =>
              have hc4 : (c : Int) < 4 := by omega
              have hc0 : (0 : Int) ≤ (c : Int) := by omega
              have c3 := K3.cell (i := r * 4 + c) (by omega)
              obtain ⟨m0, m1⟩ := HSM.out (r * 4 + c) (by omega)
              have hst := HST.out (r * 4 + c)
              obtain ⟨X, hX⟩ := Int.eq_ofNat_of_zero_le m0
              rw [hX] at c3 hst
              rw [Int.toNat_natCast, show (r * 4 + c) / 4 = r by omega, show (r * 4 + c) % 4 = c by omega] at hst
              have hX0 : (0 : Int) ≤ (X : Int) := by omega
              have hX16 : (X : Int) < 16 := by omega
              have HU : Hid (mk 32 (patch (snF k (r * 4 + c)) (X * 2) 2 (two (r : Int) (c : Int))) = mk 32 (snF k (r * 4 + (c + 1)))) := mk_congr fun j _ => by
                rw [lay_patch, ← hst]; rfl
              clear hst hX m0 m1
              go_wp2_with ((with_reducible show wpList _ _ _ (Oper.mk _ (Op.store 22 _ _) _ _ _ _ :: _) _ _); refine storePC (g := two _ _) (K4) (by omega) rfl rfl rfl rfl ?_)
              have K2 := K2.rowOther (w.heap.size + 1 + 1) (mk 32 (snF k (r * 4 + (c + 1)))) (by omega)
              have K3 := K3.rowOther (w.heap.size + 1 + 1) (mk 32 (snF k (r * 4 + (c + 1)))) (by omega)
              have K4 := K4.row 32 (snF k (r * 4 + (c + 1)))
              rw [HU.out]
              go_roundg h
              case rel => exact ⟨c + 1, by omega, by go_num, K3, K4, K2, below_setRow HB.out (by omega) _⟩
              case measure => omega
    | succ g =>
      have hd : (i : Int) < 16 := by omega
      obtain ⟨R, hR⟩ : ∃ R, R = i / 4 := ⟨_, rfl⟩
      obtain ⟨C, hC⟩ : ∃ C, C = i % 4 := ⟨_, rfl⟩
      have hq : (i : Int).tdiv 4 = (R : Int) := by rw [Int.tdiv_eq_ediv_of_nonneg (by omega)]; omega
      have hqw : IntKind.i64.wrap (R : Int) = (R : Int) := IntWalk.i64_in _ (by omega)
      have hm : (i : Int).tmod 4 = (C : Int) := by rw [Int.tmod_eq_emod_of_nonneg (by omega)]; omega
      have hR4 : (R : Int) < 4 := by omega
      have hR0 : (0 : Int) ≤ (R : Int) := by omega
      by_cases ho : R % 2 = 1
      · have hodd : (R : Int).tmod 2 = 1 := by rw [Int.tmod_eq_emod_of_nonneg (by omega)]; omega
        obtain ⟨E, hE⟩ : ∃ E, E = 3 - C := ⟨_, rfl⟩
        have hE3 : (3 : Int) - (C : Int) = (E : Int) := by omega
        have hEw : IntKind.i64.wrap (E : Int) = (E : Int) := IntWalk.i64_in _ (by omega)
        have hE4 : (E : Int) < 4 := by omega
        have hE0 : (0 : Int) ≤ (E : Int) := by omega
        have HS : Hid (snC i = R * 4 + E) := by show snC i = _; unfold snC; rw [← hR, ← hC, if_pos ho, hE]
        have c3 := K3.cell (i := R * 4 + E) (by omega)
        have f3 := K3.free (R * 4 + E)
        have HU : Hid (upd (mkF i) (R * 4 + E) (i : Int) = mkF (i + 1)) := by show _ = upd (mkF i) (snC i) (i : Int); rw [HS.out]
        clear hR hC hE ho
        go_wp2_with fail
        have K2 := K2.setOther ⟨w.heap.size + 1, R * 4 + E, none⟩ (.int .i64 (i : Int)) (by dsimp only; omega)
        have K4 := K4.setOther ⟨w.heap.size + 1, R * 4 + E, none⟩ (.int .i64 (i : Int)) (by dsimp only; omega)
        have K3 := K3.set (i := R * 4 + E) (by omega) (i : Int)
        have HB := HB.out.setCell (p := ⟨w.heap.size + 1, R * 4 + E, none⟩) (by dsimp only; omega) (.int .i64 (i : Int))
        clear c3 f3
        go_roundg g
        case rel => exact ⟨i + 1, by omega, by go_num, by rw [← HU.out]; exact K3, K4, K2, HB⟩
        case measure => omega
      · have hodd : (R : Int).tmod 2 = 0 := by rw [Int.tmod_eq_emod_of_nonneg (by omega)]; omega
        have hC4 : (C : Int) < 4 := by omega
        have hC0 : (0 : Int) ≤ (C : Int) := by omega
        have HS : Hid (snC i = R * 4 + C) := by show snC i = _; unfold snC; rw [← hR, ← hC, if_neg ho]
        have c3 := K3.cell (i := R * 4 + C) (by omega)
        have f3 := K3.free (R * 4 + C)
        have HU : Hid (upd (mkF i) (R * 4 + C) (i : Int) = mkF (i + 1)) := by show _ = upd (mkF i) (snC i) (i : Int); rw [HS.out]
        clear hR hC ho
        go_wp2_with fail
        have K2 := K2.setOther ⟨w.heap.size + 1, R * 4 + C, none⟩ (.int .i64 (i : Int)) (by dsimp only; omega)
        have K4 := K4.setOther ⟨w.heap.size + 1, R * 4 + C, none⟩ (.int .i64 (i : Int)) (by dsimp only; omega)
        have K3 := K3.set (i := R * 4 + C) (by omega) (i : Int)
        have HB := HB.out.setCell (p := ⟨w.heap.size + 1, R * 4 + C, none⟩) (by dsimp only; omega) (.int .i64 (i : Int))
        clear c3 f3
        go_roundg g
        case rel => exact ⟨i + 1, by omega, by go_num, by rw [← HU.out]; exact K3, K4, K2, HB⟩
        case measure => omega
set_option maxHeartbeats 1000000 in
theorem specSnake_any (k : Int) (w : World) :
    Calls Try.prog 7 #[.int .i64 k] w fun e w' => e = .returned (.tuple #[.agg (mk 32 (snR k)), .bool (snO k)]) ∧ Below w.heap.size w w' := by
  have z32 := zero32
  have K2 := Blk.new w 32 (fun _ => 0) 23
  have HB := Lib.hid ((Below.refl w.heap.size w).alloc (Nat.le_refl _) (.cells (mk 32 fun _ => 0) 23))
  by_cases hk : 0 ≤ k ∧ k ≤ 7
  · rw [(sn_yes hk).1, (sn_yes hk).2]
    obtain ⟨n, rfl⟩ := Int.eq_ofNat_of_zero_le hk.1
    have HF := Lib.hid (fun w => l3Form_yes (n : Int) w hk.1 hk.2)
    have HS := Lib.hid (fun w => l7Snake_any n w (by omega))
    rw [Int.toNat_natCast]
    clear hk
    generalize spF n = F at *
    go_enter Try.func7, Try.ntmps7
    go_wp2_with fail
    refine (HF.out _).mono ?_
    rintro e w' ⟨rfl, rfl⟩
    go_wp2_with fail
    refine (HS.out _).mono ?_
    rintro e w2 ⟨rfl, hb⟩
    have K2 := K2.below hb K2.lt
    have HB : Hid (Below w.heap.size w w2) := HB.out.trans (hb.mono HB.out.size)
    clear hb
    go_wp2_with ((with_reducible show wpList _ _ _ (Oper.mk _ (Op.store 23 _ _) _ _ _ _ :: _) _ _); refine storeP (K2) rfl rfl rfl rfl ?_)
    try simp only [Exit.inBlock, Exit.then]
    exact retctP (K2.row 32 _) rfl rfl rfl ⟨rfl, below_setRow HB.out (Nat.le_refl _) _⟩
  · rw [(sn_no hk).1, (sn_no hk).2]
    have HF := Lib.hid (fun w => l3Form_no k w (by omega))
    clear hk
    go_enter Try.func7, Try.ntmps7
    go_wp2_with fail
    refine (HF.out _).mono ?_
    rintro e w' ⟨rfl, rfl⟩
    go_wp2_with ((with_reducible show wpList _ _ _ (Oper.mk _ (Op.store 23 _ _) _ _ _ _ :: _) _ _); refine storeP (K2) rfl rfl rfl rfl ?_)
    try simp only [Exit.inBlock, Exit.then]
    exact retctP (K2.row 32 _) rfl rfl rfl ⟨rfl, below_setRow HB.out (Nat.le_refl _) _⟩
end Go.Proofs.Ytmcmpedmgibmkab
