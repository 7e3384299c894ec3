/-
  The contracts of the program's isOrder and seedStep.
-/
import Derived.Test.YtfjpdopljmilpaaOrdTop
import Derived.Test.YtfjpdopljmilpaaSeedTile
import Derived.Test.YtfjpdopljmilpaaOver
import Derived.Test.YtfjpdopljmilpaaStepMem
namespace Go.Proofs.Ytfjpdopljmilpaa
open Go.RowKit Plain
attribute [local go_sem] store_new
set_option linter.unusedVariables false
set_option linter.unusedSimpArgs false
/-- Four Booleans. -/
def bk4 (p : Nat → Bool) : Array Value := #[.bool (p 0), .bool (p 1), .bool (p 2), .bool (p 3)]
theorem bk4_get (p : Nat → Bool) {d : Nat} (h : d < 4) : (bk4 p)[d]? = some (.bool (p d)) := by
  rcases (by omega : d = 0 ∨ d = 1 ∨ d = 2 ∨ d = 3) with rfl | rfl | rfl | rfl <;> rfl
theorem bk4_set (p : Nat → Bool) {d : Nat} (h : d < 4) : (bk4 p).setIfInBounds d (.bool true) = bk4 fun j => if j = d then true else p j := by
  rcases (by omega : d = 0 ∨ d = 1 ∨ d = 2 ∨ d = 3) with rfl | rfl | rfl | rfl <;> rfl
theorem bk4_congr {p q : Nat → Bool} (h : ∀ j, p j = q j) : bk4 p = bk4 q := by simp only [bk4, h]
theorem bk4_zero : (#[.bool false, .bool false, .bool false, .bool false] : Array Value) = bk4 fun _ => false := rfl
def B4 (w : World) (b : Nat) (p : Nat → Bool) (t : TypeId) : Prop := w.heap[b]? = some (.cells (bk4 p) t (0, 0))
theorem B4.new (w : World) (p : Nat → Bool) (t : TypeId) : B4 (w.alloc (.cells (bk4 p) t)) w.heap.size p t := heap_alloc_new w _
theorem B4.lt {w : World} {b : Nat} {p : Nat → Bool} {t : TypeId} (h : B4 w b p t) : b < w.heap.size := (Array.getElem?_eq_some_iff.1 h).1
theorem B4.cell {w : World} {b d : Nat} {p : Nat → Bool} {t : TypeId} (h : B4 w b p t) (hd : d < 4) : w.cell? ⟨b, d, none⟩ = some (.bool (p d)) := (cell_of_row w b d _ t _ h).trans (bk4_get p hd)
theorem B4.free {w : World} {b : Nat} {p : Nat → Bool} {t : TypeId} (h : B4 w b p t) (d : Nat) : w.frozen? ⟨b, d, none⟩ = false := frozen_of_row w b d _ t h
theorem B4.set {w : World} {b d : Nat} {p : Nat → Bool} {t : TypeId} (h : B4 w b p t) (hd : d < 4) : B4 (w.setCell ⟨b, d, none⟩ (.bool true)) b (fun j => if j = d then true else p j) t := by
  have := heap_setCell_same w b d _ t (.bool true) h
  rwa [bk4_set p hd] at this
theorem B4.congr {w : World} {b : Nat} {p q : Nat → Bool} {t : TypeId} (h : B4 w b p t) (e : ∀ j, p j = q j) : B4 w b q t := by
  unfold B4 at *; rw [h, bk4_congr e]
theorem store_new4 {P : Program} (W : World) (b : Nat) (p q : Nat → Bool) (t : TypeId) (hb : b = W.heap.size) :
    (storeCells ⟨b, 0, none⟩ (bk4 q).toList).run P (W.alloc (.cells (bk4 p) t)) = .ok () (W.alloc (.cells (bk4 q) t)) := by
  subst hb
  have := run_storeCells_from (P := P) W.heap.size t (bk4 q).toList 0 _ _ (B4.new W p t) (by simp [bk4]) (fun v hv => by
    simp [bk4] at hv
    rcases hv with rfl | rfl | rfl | rfl <;> rfl)
  rw [this]
  simp [World.setRow_alloc_new, bk4]
attribute [local go_sem] store_new4
set_option maxHeartbeats 2000000 in
set_option maxRecDepth 20000 in
theorem isOrder_any (o : Nat → Int) (w : World) :
    Calls Try.prog 148 #[.agg (mk 4 o)] w fun e w' => e = .returned (.bool (decide (OrdOk o))) ∧ Below w.heap.size w w' := by
  have zb := bk4_zero
  have iR := idxR
  have K1 := (Blk.new w 4 o 22).alloc (.cells (bk4 fun _ => false) 230)
  have K3 := B4.new (w.alloc (.cells (mk 4 o) 22)) (fun _ => false) 230
  have HB := Lib.hid (((Below.refl w.heap.size w).alloc (Nat.le_refl _) (.cells (mk 4 o) 22)).alloc (by simp) (.cells (bk4 fun _ => false) 230))
  simp only [World.size_alloc] at K3
  go_enter Try.func148, Try.ntmps148
  go_wp2_with ((with_reducible show wpList _ _ _ (Oper.mk _ (Op.load 22 _) _ _ _ _ :: _) _ _); refine loadR (K1) rfl rfl rfl ?_)
  generalize (w.alloc (.cells (mk 4 o) 22)).alloc (.cells (bk4 fun _ => false) 230) = w1 at *
  go_loopg [8] 4 (fun gk s8 wr => ∃ k : Nat, k + gk = 4 ∧ s8 = .int .i64 k ∧ Hid (OrdPre o k) ∧ B4 wr (w.heap.size + 1) (ordS o k) 230 ∧ Hid (Below w.heap.size w wr))
  case atStart => exact ⟨0, by omega, rfl, ordPre_zero o, K3.congr fun j => by simp [ordS], HB⟩
  case round =>
    clear K1 K3 HB
    obtain ⟨k, hkg, rfl, HP, K3, HB⟩ := hrel
    cases gk with
    | zero =>
      have hk : ¬ ((k : Int) < 4) := by omega
      obtain rfl : k = 4 := by omega
      have HD : Hid (decide (OrdOk o) = true) := decide_eq_true HP.out
      clear hkg
      go_wp2_with fail
      go_ret
      exact ⟨by rw [HD.out]; rfl, HB.out⟩
    | succ gk2 =>
      have hk8 : (k : Int) < 4 := by omega
      have hk9 : k < 4 := by omega
      have hk0 : (0 : Int) ≤ (k : Int) := by omega
      have iX := fun W => iR o k hk9 W
      by_cases ha : 0 ≤ o k ∧ o k ≤ 3
      · have HA := Lib.hid ha
        obtain ⟨d, hd⟩ := Int.eq_ofNat_of_zero_le ha.1
        have hd4 : d < 4 := by omega
        rw [hd] at iX
        clear iR
        have HDd := Lib.hid hd
        have c0 := K3.cell hd4
        have f0 := K3.free d
        have d1 : (0 : Int) ≤ (d : Int) := by omega
        have d2 : (d : Int) ≤ 3 := by omega
        have d3 : ¬ ((4 : Int) ≤ (d : Int)) := by omega
        cases hs : ordS o k d with
        | true =>
          have HD : Hid (decide (OrdOk o) = false) := by
            obtain ⟨i, hi, e⟩ := ordS_iff.1 hs
            exact decide_eq_false (ord_twice hi hk9 (by rw [e, hd]))
          rw [hs] at c0
          clear hs ha hd
          go_wp2_with fail
          refine (isDirection_yes (d : Int) _ d1 d2).mono ?_
          rintro e w' ⟨rfl, rfl⟩
          go_wp2_with fail
          go_ret
          exact ⟨by rw [HD.out]; rfl, HB.out⟩
        | false =>
          have HP2 : Hid (OrdPre o (k + 1)) := ordPre_step HP.out HA.out (fun i hi e => by
            have : ordS o k d = true := ordS_iff.2 ⟨i, hi, by rw [e, hd]⟩
            rw [hs] at this; cases this)
          have K3s := (K3.set hd4).congr (q := ordS o (k + 1)) fun j => (ordS_step o k j d hd).symm
          rw [hs] at c0
          clear hs ha hd
          go_wp2_with fail
          refine (isDirection_yes (d : Int) _ d1 d2).mono ?_
          rintro e w' ⟨rfl, rfl⟩
          go_wp2_with fail
          go_roundg gk2
          case rel => exact ⟨k + 1, by omega, by go_num, HP2, K3s, HB.out.setCell (by dsimp only; omega) _⟩
          case measure => omega
      · have HD : Hid (decide (OrdOk o) = false) := decide_eq_false (ord_out hk9 ha)
        have HA := Lib.hid (show o k < 0 ∨ 3 < o k by omega)
        clear ha iR
        go_wp2_with fail
        refine (isDirection_no (o k) _ HA.out).mono ?_
        rintro e w' ⟨rfl, rfl⟩
        go_wp2_with fail
        go_ret
        exact ⟨by rw [HD.out]; rfl, HB.out⟩
/-- What seedStep tells. -/
def ssV (f o : Nat → Int) (s : Int) : Nat → Int := if fmN f o 4 < 4 then sdStep f o s else fun _ => 0
set_option maxHeartbeats 4000000 in
set_option maxRecDepth 20000 in
theorem seedStep_any (f o : Nat → Int) (s : Int) (w : World) (hV : Vd f) (hO : OrdOk o) (hs : SeedOk s) :
    Calls Try.prog 150 #[.agg (mk 16 f), .agg (mk 4 o), .int .i64 s] w fun e w' => e = .returned (.tuple #[.agg (mk 4 (ssV f o s)), .bool (decide (fmN f o 4 < 4))]) ∧ Below w.heap.size w w' := by
  have z4 := zero4
  have z2 := zero2
  have iR := idxR
  have iF := fieldS0
  have K1 := ((Blk.new w 16 f 26).alloc (.cells (mk 4 o) 22)).alloc (.cells (mk 4 fun _ => 0) 52)
  have K2 := (Blk.new (w.alloc (.cells (mk 16 f) 26)) 4 o 22).alloc (.cells (mk 4 fun _ => 0) 52)
  have K6 := Blk.new ((w.alloc (.cells (mk 16 f) 26)).alloc (.cells (mk 4 o) 22)) 4 (fun _ => 0) 52
  have HB := Lib.hid ((((Below.refl w.heap.size w).alloc (Nat.le_refl _) (.cells (mk 16 f) 26)).alloc (by simp) (.cells (mk 4 o) 22)).alloc (by simp; omega) (.cells (mk 4 fun _ => 0) 52))
  simp only [World.size_alloc] at K2 K6
  have HV := Lib.hid hV
  have HO := Lib.hid hO
  have HS := Lib.hid hs
  obtain ⟨N, hN⟩ : ∃ N, N = fmN f o 4 := ⟨_, rfl⟩
  have HN := Lib.hid hN
  have hN4 : N ≤ 4 := by rw [hN]; exact fmN_le f o 4
  have HNO : Hid (∀ i, i < N → isMv f (o i).toNat = false) := by
    rcases (by omega : N < 4 ∨ N = 4) with q | q
    · rw [hN] at q; have := (fmN_at q).2
      rw [hN]; exact fmN_all this
    · rw [q] at hN; rw [q]; exact fmN_all hN.symm
  obtain ⟨X, hX⟩ : ∃ X, X = ssV f o s := ⟨_, rfl⟩
  obtain ⟨R, hR⟩ : ∃ R, R = decide (fmN f o 4 < 4) := ⟨_, rfl⟩
  rw [← hX, ← hR]
  have HXX := Lib.hid hX
  have HRR := Lib.hid hR
  clear hV hO hs hN hX hR
  go_enter Try.func150, Try.ntmps150
  go_wp2_with ((with_reducible show wpList _ _ _ (Oper.mk _ (Op.load 22 _) _ _ _ _ :: _) _ _); refine loadR (K2) rfl rfl rfl ?_)
  generalize ((w.alloc (.cells (mk 16 f) 26)).alloc (.cells (mk 4 o) 22)).alloc (.cells (mk 4 fun _ => 0) 52) = w1 at *
  go_loopg [14] 4 (fun gk s14 wr => ∃ k : Nat, k + gk = 4 ∧ s14 = .int .i64 k ∧ k ≤ N ∧ Blk wr w.heap.size 16 f 26 ∧ Blk wr (w.heap.size + 1 + 1) 4 (fun _ => 0) 52 ∧ Hid (Below w.heap.size w wr))
  case atStart => exact ⟨0, by omega, rfl, Nat.zero_le _, K1, K6, HB⟩
  case round =>
    clear K1 K2 K6 HB
    obtain ⟨k, hkg, rfl, hkN, K1, K6, HB⟩ := hrel
    cases gk with
    | zero =>
      have hk : ¬ ((k : Int) < 4) := by omega
      obtain rfl : k = 4 := by omega
      have HX : Hid (X = (fun _ => 0) ∧ R = false) := by
        have : ¬ fmN f o 4 < 4 := by rw [← HN.out]; omega
        exact ⟨by rw [HXX.out]; unfold ssV; rw [if_neg this], by rw [HRR.out]; exact decide_eq_false this⟩
      clear hkg
      go_wp2_with ((with_reducible show wpList _ _ _ (Oper.mk _ (Op.store 52 _ _) _ _ _ _ :: _) _ _); refine storeT (K6) rfl rfl rfl rfl ?_)
      try simp only [Exit.inBlock, Exit.then]
      refine retctT (K6.row 4 _) rfl rfl rfl ⟨?_, below_setRow HB.out (by omega) _⟩
      rw [HX.out.1, HX.out.2]; rfl
    | succ gk2 =>
      have hk8 : (k : Int) < 4 := by omega
      have hk9 : k < 4 := by omega
      have hk0 : (0 : Int) ≤ (k : Int) := by omega
      have iX := fun W => iR o k hk9 W
      have ha := HO.out.1 k hk9
      obtain ⟨d, hd⟩ := Int.eq_ofNat_of_zero_le ha.1
      have hd4 : d < 4 := by omega
      rw [hd] at iX
      have HDd := Lib.hid hd
      by_cases hq : k = N
      · have hfm : fmN f o 4 < 4 := by rw [← HN.out]; omega
        have hFD := fmD_mv HO.out hfm
        have hdD : d = fmD f o := by have := hFD.2.2; rw [← HN.out, ← hq, hd] at this; omega
        clear hq hkN HNO
        have hmv : isMv f d = true := by rw [hdD]; exact hFD.2.1
        have hroom := mv_room HV.out hmv
        have hvS : Vd (slideB f d) := slideB_vd HV.out d
        have hST := stl_yes (f := slideB f d) (s := s) ⟨hvS, HS.out, hroom⟩
        have HSD := Lib.hid (fun W => implSeedT_any (slideB f d) s W)
        rw [hST.1, hST.2.1, hST.2.2] at HSD
        have HX : Hid (mk 4 X = mk 4 (stepF (d : Int) (fun i => empF (slideB f d) (sdI (slideB f d) s * 2 + i)) (sdT s)) ∧ R = true) := by
          refine ⟨?_, by rw [HRR.out]; exact decide_eq_true hfm⟩
          rw [HXX.out]
          unfold ssV; rw [if_pos hfm]
          refine mk_congr fun j hj => ?_
          unfold sdStep
          rw [← hdD]
          rcases (by omega : j = 0 ∨ j = 1 ∨ j = 2 ∨ j = 3) with rfl | rfl | rfl | rfl <;> rfl
        have HMV := Lib.hid (fun W => isMove_any f d W HV.out hd4)
        rw [hmv] at HMV
        have HSL := Lib.hid (fun W => slideTo_any f (d : Int) W HV.out (by omega) (by omega))
        have iS : ∀ W, (Instr.field 210 (.agg (mk 18 (slideV f d))) 0).run Try.prog W = .ok (.agg (mk 16 (slideB f d))) W := fun W => by
          rw [iF]
          exact congrArg (Result.ok · W) (congrArg Value.agg (mk_congr fun j hj => by unfold slideV; rw [if_pos hj]))
        clear iF iR hST hvS hroom hmv hdD hFD hfm ha hd
        go_wp2_with ((with_reducible show wpList _ _ _ (Oper.mk _ (Op.load 26 _) _ _ _ _ :: _) _ _); refine loadB (K1) rfl rfl rfl ?_)
        refine (HMV.out _).mono ?_
        rintro e w2 ⟨rfl, hb⟩
        have K1 := K1.below hb K1.lt
        have K6 := K6.below hb K6.lt
        have HB : Hid (Below w.heap.size w w2) := HB.out.trans (hb.mono HB.out.size)
        clear hb HMV
        go_wp2_with ((with_reducible show wpList _ _ _ (Oper.mk _ (Op.load 26 _) _ _ _ _ :: _) _ _); refine loadB (K1) rfl rfl rfl ?_)
        refine (HSL.out _).mono ?_
        rintro e w3 ⟨rfl, hb⟩
        rw [Int.toNat_natCast]
        have K6 := K6.below hb K6.lt
        have HB : Hid (Below w.heap.size w w3) := HB.out.trans (hb.mono HB.out.size)
        clear hb HSL K1
        go_wp2_with fail
        refine (HSD.out _).mono ?_
        rintro e w4 ⟨rfl, hb⟩
        generalize hC : (fun i => empF (slideB f d) (sdI (slideB f d) s * 2 + i)) = C at *
        generalize sdT s = T at *
        have K6 := (K6.below hb K6.lt).alloc (.cells (mk 2 C) 37)
        have K7 := Blk.new w4 2 C 37
        have HB := HB.out.trans (hb.mono HB.out.size)
        have HB : Hid (Below w.heap.size w (w4.alloc (.cells (mk 2 C) 37))) := HB.alloc HB.size _
        clear hb HSD hC
        go_wp2_with (first | ((with_reducible show wpList _ _ _ (Oper.mk _ (Op.load 37 _) _ _ _ _ :: _) _ _); refine loadC (K7) rfl rfl rfl ?_) | ((with_reducible show wpList _ _ _ (Oper.mk _ (Op.build 52 _) _ _ _ _ :: _) _ _); refine wpl_stepT _ _ _ rfl rfl rfl rfl rfl ?_) | ((with_reducible show wpList _ _ _ (Oper.mk _ (Op.store 52 _ _) _ _ _ _ :: _) _ _); refine storeT (K6) rfl rfl rfl rfl ?_))
        try simp only [Exit.inBlock, Exit.then]
        refine retctT (K6.row 4 _) rfl rfl rfl ⟨?_, below_setRow HB.out (by omega) _⟩
        rw [HX.out.1, HX.out.2]; rfl
      · have hmv : isMv f d = false := by have := HNO.out k (by omega); rw [hd] at this; simpa using this
        have HMV := Lib.hid (fun W => isMove_any f d W HV.out hd4)
        rw [hmv] at HMV
        clear hmv ha hd iR
        go_wp2_with ((with_reducible show wpList _ _ _ (Oper.mk _ (Op.load 26 _) _ _ _ _ :: _) _ _); refine loadB (K1) rfl rfl rfl ?_)
        refine (HMV.out _).mono ?_
        rintro e w2 ⟨rfl, hb⟩
        have K1 := K1.below hb K1.lt
        have K6 := K6.below hb K6.lt
        have HB : Hid (Below w.heap.size w w2) := HB.out.trans (hb.mono HB.out.size)
        clear hb HMV
        go_wp2_with fail
        go_roundg gk2
        case rel => exact ⟨k + 1, by omega, by go_num, by omega, K1, K6, HB⟩
        case measure => omega
end Go.Proofs.Ytfjpdopljmilpaa
