/-
  The contracts of FirstForm and AreSameForm, in the reference and in the program, for all boards.
-/
import Derived.Test.YtpiegllffkjneaaImplForm2
import Derived.Test.YtpiegllffkjneaaImplLess
import Derived.Test.YtpiegllffkjneaaOver
namespace Go.Proofs.Ytpiegllffkjneaa
open Go.RowKit Plain
attribute [local go_sem] store_new

/-- What FirstForm returns. -/
noncomputable def fstRB (f : Nat → Int) : Nat → Int := if Vd f then fstF f else fun _ => 0
noncomputable def fstRN (f : Nat → Int) : Int := if Vd f then (fstN f 8 : Nat) else 0
theorem fstR_yes {f : Nat → Int} (h : Vd f) : fstRB f = fstF f ∧ fstRN f = (fstN f 8 : Nat) := by simp [fstRB, fstRN, h]
theorem fstR_no {f : Nat → Int} (h : ¬ Vd f) : fstRB f = (fun _ => 0) ∧ fstRN f = 0 := by simp [fstRB, fstRN, h]
theorem implLess_vd (f g : Nat → Int) (w : World) (h : Vd f) (k : Vd g) :
    Calls Try.prog 50 #[.agg (mk 16 f), .agg (mk 16 g)] w fun e w' => e = .returned (.tuple #[.bool (lessB f g), .bool true]) ∧ Below w.heap.size w w' := by
  have := implLess_any f g w
  rw [(less_yes h k).1, (less_yes h k).2] at this
  exact this
set_option maxHeartbeats 2000000 in
set_option maxRecDepth 20000 in
theorem firstOf_any (f : Nat → Int) (w : World) (hV : Vd f) :
    Calls Try.prog 89 #[.agg (mk 16 f)] w fun e w' => e = .returned (.tuple #[.agg (mk 16 (fstF f)), .int .i64 (fstN f 8 : Nat)]) ∧ Below w.heap.size w w' := by
  have z16 := zero16
  have K1 := ((Blk.new w 16 f 27).alloc (.cells (mk 16 fun _ => 0) 27)).alloc (.cells (mk 16 f) 27)
  have K2 := (Blk.new (w.alloc (.cells (mk 16 f) 27)) 16 (fun _ => 0) 27).alloc (.cells (mk 16 f) 27)
  have K3 := Blk.new ((w.alloc (.cells (mk 16 f) 27)).alloc (.cells (mk 16 fun _ => 0) 27)) 16 f 27
  have KA := (Blk.new w 16 f 27).alloc (.cells (mk 16 fun _ => 0) 27)
  have HB := Lib.hid ((((Below.refl w.heap.size w).alloc (Nat.le_refl _) (.cells (mk 16 f) 27)).alloc (by simp) (.cells (mk 16 fun _ => 0) 27)).alloc (by simp; omega) (.cells (mk 16 f) 27))
  simp only [World.size_alloc] at K2 K3
  have HV := Lib.hid (fun k => form_vd hV k)
  clear hV
  go_enter Try.func89, Try.ntmps89
  go_wp2_with (first | ((with_reducible show wpList _ _ _ (Oper.mk _ (Op.load 27 _) _ _ _ _ :: _) _ _); refine loadB (KA) rfl rfl rfl ?_) | ((with_reducible show wpList _ _ _ (Oper.mk _ (Op.load 27 _) _ _ _ _ :: _) _ _); refine loadB (K1) rfl rfl rfl ?_))
  clear KA
  generalize ((w.alloc (.cells (mk 16 f) 27)).alloc (.cells (mk 16 fun _ => 0) 27)).alloc (.cells (mk 16 f) 27) = w1 at *
  refine (eightForms_any f _).mono ?_
  rintro e w2 ⟨rfl, hb⟩
  have K2 := K2.below hb K2.lt
  have K3 := K3.below hb K3.lt
  have HB : Hid (Below w.heap.size w w2) := HB.out.trans (hb.mono HB.out.size)
  clear hb K1
  go_wp2_with fail
  go_loopg [5, 13] 8 (fun g s5 s13 wr => ∃ k : Nat, k + g = 8 ∧ s13 = .int .i64 k ∧ s5 = .int .i64 (fstN f k : Nat) ∧ Blk wr (w.heap.size + 1) 16 (fun _ => 0) 27 ∧ Blk wr (w.heap.size + 1 + 1) 16 (formF f (fstN f k)) 27 ∧ Hid (Below w.heap.size w wr))
  case atStart => exact ⟨0, by omega, rfl, rfl, K2, K3, HB⟩
  case round =>
    obtain ⟨k, hkg, rfl, rfl, k2, k3, hb⟩ := hrel
    clear K2 K3 HB
    cases gk with
    | zero =>
      have hk : ¬ ((k : Int) < 8) := by omega
      obtain rfl : k = 8 := by omega
      clear hkg hk
      go_wp2_with (first | ((with_reducible show wpList _ _ _ (Oper.mk _ (Op.load 27 _) _ _ _ _ :: _) _ _); refine loadB (k3) rfl rfl rfl ?_) | ((with_reducible show wpList _ _ _ (Oper.mk _ (Op.store 27 _ _) _ _ _ _ :: _) _ _); refine storeB (k2) rfl rfl rfl rfl ?_))
      try simp only [Exit.inBlock, Exit.then]
      exact retctB (k2.row 16 _) rfl rfl rfl ⟨rfl, below_setRow hb.out (by omega) _⟩
    | succ g =>
      have hk8 : (k : Int) < 8 := by omega
      have hk0 : (0 : Int) ≤ (k : Int) := by omega
      have iX : ∀ W, (Instr.index 102 (.agg (mk 128 (eightF f))) (.int .i64 (k : Int))).run Try.prog W = .ok (.agg (mk 16 (formF f k))) W := fun W => (idxE (eightF f) k (by omega) W).trans (by rw [eight_mk])
      have k2 := k2.alloc (.cells (mk 16 (formF f k)) 27)
      have k3 := k3.alloc (.cells (mk 16 (formF f k)) 27)
      have k4 := Blk.new wr 16 (formF f k) 27
      have HB4 : Hid (Below w.heap.size w (wr.alloc (.cells (mk 16 (formF f k)) 27))) := hb.out.alloc hb.out.size _
      have hlt := k3.lt
      clear hb
      go_wp2_with (first | ((with_reducible show wpList _ _ _ (Oper.mk _ (Op.load 27 _) _ _ _ _ :: _) _ _); refine loadB (k3) rfl rfl rfl ?_) | ((with_reducible show wpList _ _ _ (Oper.mk _ (Op.load 27 _) _ _ _ _ :: _) _ _); refine loadB (k4) rfl rfl rfl ?_))
      refine (implLess_vd _ _ _ (HV.out k) (HV.out _)).mono ?_
      rintro e w4 ⟨rfl, hb⟩
      have k2 := k2.below hb k2.lt
      have k3 := k3.below hb k3.lt
      have k4 := k4.below hb k4.lt
      have hb : Hid (Below w.heap.size w w4) := HB4.out.trans (hb.mono HB4.out.size)
      clear HB4 iX
      cases hq : lessB (formF f k) (formF f (fstN f k)) with
      | true =>
        have Y := Lib.hid (fst_yes hq)
        clear hq
        go_wp2_with (first | ((with_reducible show wpList _ _ _ (Oper.mk _ (Op.load 27 _) _ _ _ _ :: _) _ _); refine loadB (k4) rfl rfl rfl ?_) | ((with_reducible show wpList _ _ _ (Oper.mk _ (Op.store 27 _ _) _ _ _ _ :: _) _ _); refine storeB (k3) rfl rfl rfl rfl ?_))
        go_roundg g
        case rel => exact ⟨k + 1, by omega, by go_num, by rw [Y.out], k2.rowOther _ _ (by omega), by rw [Y.out]; exact k3.row 16 _, below_setRow hb.out (by omega) _⟩
        case measure => omega
      | false =>
        have Y := Lib.hid (fst_not hq)
        clear hq
        go_wp2_with fail
        go_roundg g
        case rel => exact ⟨k + 1, by omega, by go_num, by rw [Y.out], k2, by rw [Y.out]; exact k3, hb⟩
        case measure => omega
set_option maxHeartbeats 2000000 in
set_option maxRecDepth 20000 in
theorem l3First_any (f : Nat → Int) (w : World) :
    Calls Try.prog 91 #[.agg (mk 16 f)] w fun e w' => e = .returned (.tuple #[.agg (mk 16 (fstF f)), .int .i64 (fstN f 8 : Nat)]) ∧ Below w.heap.size w w' := by
  have z16 := zero16
  have K1 := ((Blk.new w 16 f 27).alloc (.cells (mk 16 fun _ => 0) 27)).alloc (.cells (mk 16 f) 27)
  have K2 := (Blk.new (w.alloc (.cells (mk 16 f) 27)) 16 (fun _ => 0) 27).alloc (.cells (mk 16 f) 27)
  have K3 := Blk.new ((w.alloc (.cells (mk 16 f) 27)).alloc (.cells (mk 16 fun _ => 0) 27)) 16 f 27
  have KA := (Blk.new w 16 f 27).alloc (.cells (mk 16 fun _ => 0) 27)
  have HB := Lib.hid ((((Below.refl w.heap.size w).alloc (Nat.le_refl _) (.cells (mk 16 f) 27)).alloc (by simp) (.cells (mk 16 fun _ => 0) 27)).alloc (by simp; omega) (.cells (mk 16 f) 27))
  simp only [World.size_alloc] at K2 K3
  go_enter Try.func91, Try.ntmps91
  go_wp2_with ((with_reducible show wpList _ _ _ (Oper.mk _ (Op.load 27 _) _ _ _ _ :: _) _ _); refine loadB (KA) rfl rfl rfl ?_)
  clear KA
  generalize ((w.alloc (.cells (mk 16 f) 27)).alloc (.cells (mk 16 fun _ => 0) 27)).alloc (.cells (mk 16 f) 27) = w1 at *
  go_loopg [5, 6] 7 (fun g s5 s6 wr => ∃ k : Nat, k + g = 8 ∧ s6 = .int .i64 k ∧ s5 = .int .i64 (fstN f k : Nat) ∧ Blk wr w.heap.size 16 f 27 ∧ Blk wr (w.heap.size + 1) 16 (fun _ => 0) 27 ∧ Blk wr (w.heap.size + 1 + 1) 16 (formF f (fstN f k)) 27 ∧ Hid (Below w.heap.size w wr))
  case atStart => exact ⟨1, by omega, rfl, by rw [fst_one]; rfl, K1, K2, by rw [fst_one]; exact K3, HB⟩
  case round =>
    obtain ⟨k, hkg, rfl, rfl, k1, k2, k3, hb⟩ := hrel
    clear K1 K2 K3 HB
    cases gk with
    | zero =>
      have hk : ¬ ((k : Int) < 8) := by omega
      obtain rfl : k = 8 := by omega
      clear hkg hk
      go_wp2_with (first | ((with_reducible show wpList _ _ _ (Oper.mk _ (Op.load 27 _) _ _ _ _ :: _) _ _); refine loadB (k3) rfl rfl rfl ?_) | ((with_reducible show wpList _ _ _ (Oper.mk _ (Op.store 27 _ _) _ _ _ _ :: _) _ _); refine storeB (k2) rfl rfl rfl rfl ?_))
      try simp only [Exit.inBlock, Exit.then]
      exact retctB (k2.row 16 _) rfl rfl rfl ⟨rfl, below_setRow hb.out (by omega) _⟩
    | succ g =>
      have hk8 : (k : Int) < 8 := by omega
      have hk9 : k < 8 := by omega
      go_wp2_with ((with_reducible show wpList _ _ _ (Oper.mk _ (Op.load 27 _) _ _ _ _ :: _) _ _); refine loadB (k1) rfl rfl rfl ?_)
      refine (l3Made_any f k _ hk9).mono ?_
      rintro e w3 ⟨rfl, hb3⟩
      have k1 := (k1.below hb3 k1.lt).alloc (.cells (mk 16 (formF f k)) 27)
      have k2 := (k2.below hb3 k2.lt).alloc (.cells (mk 16 (formF f k)) 27)
      have k3 := (k3.below hb3 k3.lt).alloc (.cells (mk 16 (formF f k)) 27)
      have k4 := Blk.new w3 16 (formF f k) 27
      have HB4 : Hid (Below w.heap.size w (w3.alloc (.cells (mk 16 (formF f k)) 27))) := (hb.out.trans (hb3.mono hb.out.size)).alloc (hb.out.trans (hb3.mono hb.out.size)).size _
      clear hb hb3
      go_wp2_with (first | ((with_reducible show wpList _ _ _ (Oper.mk _ (Op.load 27 _) _ _ _ _ :: _) _ _); refine loadB (k3) rfl rfl rfl ?_) | ((with_reducible show wpList _ _ _ (Oper.mk _ (Op.load 27 _) _ _ _ _ :: _) _ _); refine loadB (k4) rfl rfl rfl ?_))
      generalize w3.alloc (.cells (mk 16 (formF f k)) 27) = w4 at *
      refine (l2Before_any _ _ _).mono ?_
      rintro e w5 ⟨rfl, hb⟩
      have k1 := k1.below hb k1.lt
      have k2 := k2.below hb k2.lt
      have k3 := k3.below hb k3.lt
      have k4 := k4.below hb k4.lt
      have hb : Hid (Below w.heap.size w w5) := HB4.out.trans (hb.mono HB4.out.size)
      have hlt := k3.lt
      clear HB4
      cases hq : lessB (formF f k) (formF f (fstN f k)) with
      | true =>
        have Y := Lib.hid (fst_yes hq)
        clear hq
        go_wp2_with (first | ((with_reducible show wpList _ _ _ (Oper.mk _ (Op.load 27 _) _ _ _ _ :: _) _ _); refine loadB (k4) rfl rfl rfl ?_) | ((with_reducible show wpList _ _ _ (Oper.mk _ (Op.store 27 _ _) _ _ _ _ :: _) _ _); refine storeB (k3) rfl rfl rfl rfl ?_))
        go_roundg g
        case rel => exact ⟨k + 1, by omega, by go_num, by rw [Y.out], k1.rowOther _ _ (by omega), k2.rowOther _ _ (by omega), by rw [Y.out]; exact k3.row 16 _, below_setRow hb.out (by omega) _⟩
        case measure => omega
      | false =>
        have Y := Lib.hid (fst_not hq)
        clear hq
        go_wp2_with fail
        go_roundg g
        case rel => exact ⟨k + 1, by omega, by go_num, by rw [Y.out], k1, k2, by rw [Y.out]; exact k3, hb⟩
        case measure => omega
set_option maxHeartbeats 1000000 in
theorem specFirst_any (f : Nat → Int) (w : World) :
    Calls Try.prog 14 #[.agg (mk 16 f)] w fun e w' => e = .returned (.tuple #[.agg (mk 16 (fstRB f)), .int .i64 (fstRN f), .bool (vdO f)]) ∧ Below w.heap.size w w' := by
  have z16 := zero16
  have K1 := (Blk.new w 16 f 27).alloc (.cells (mk 16 fun _ => 0) 27)
  have K2 := Blk.new (w.alloc (.cells (mk 16 f) 27)) 16 (fun _ => 0) 27
  have HB := Lib.hid (((Below.refl w.heap.size w).alloc (Nat.le_refl _) (.cells (mk 16 f) 27)).alloc (by simp) (.cells (mk 16 fun _ => 0) 27))
  simp only [World.size_alloc] at K2
  by_cases hV : Vd f
  · obtain ⟨y1, y2⟩ := fstR_yes hV
    rw [y1, y2, vdO_yes hV]
    clear y1 y2
    have HV := Lib.hid hV
    clear hV
    go_enter Try.func14, Try.ntmps14
    go_wp2_with ((with_reducible show wpList _ _ _ (Oper.mk _ (Op.load 27 _) _ _ _ _ :: _) _ _); refine loadB (K1) rfl rfl rfl ?_)
    refine (l2Board_yes _ _ HV.out).mono ?_
    rintro e w1 ⟨rfl, hb⟩
    have k1 := K1.below hb K1.lt
    have k2 := K2.below hb K2.lt
    have HB1 : Hid (Below w.heap.size w w1) := HB.out.trans (hb.mono HB.out.size)
    clear hb HB K1 K2
    go_wp2_with ((with_reducible show wpList _ _ _ (Oper.mk _ (Op.load 27 _) _ _ _ _ :: _) _ _); refine loadB (k1) rfl rfl rfl ?_)
    refine (l3First_any _ _).mono ?_
    rintro e w2 ⟨rfl, hb⟩
    have k2 := (k2.below hb k2.lt).alloc (.cells (mk 16 (fstF f)) 27)
    have HB2 : Hid (Below w.heap.size w (w2.alloc (.cells (mk 16 (fstF f)) 27))) := (HB1.out.trans (hb.mono HB1.out.size)).alloc (HB1.out.trans (hb.mono HB1.out.size)).size _
    clear hb HB1
    have k5 := Blk.new w2 16 (fstF f) 27
    go_wp2_with (first | ((with_reducible show wpList _ _ _ (Oper.mk _ (Op.load 27 _) _ _ _ _ :: _) _ _); refine loadB (k5) rfl rfl rfl ?_) | ((with_reducible show wpList _ _ _ (Oper.mk _ (Op.store 27 _ _) _ _ _ _ :: _) _ _); refine storeB (k2) rfl rfl rfl rfl ?_))
    try simp only [Exit.inBlock, Exit.then]
    exact retcttB (k2.row 16 _) rfl rfl rfl ⟨rfl, below_setRow HB2.out (by omega) _⟩
  · obtain ⟨y1, y2⟩ := fstR_no hV
    rw [y1, y2, vdO_no hV]
    clear y1 y2
    have HV := Lib.hid hV
    clear hV
    go_enter Try.func14, Try.ntmps14
    go_wp2_with ((with_reducible show wpList _ _ _ (Oper.mk _ (Op.load 27 _) _ _ _ _ :: _) _ _); refine loadB (K1) rfl rfl rfl ?_)
    refine (l2Board_no _ _ HV.out).mono ?_
    rintro e w1 ⟨rfl, hb⟩
    have k2 := K2.below hb K2.lt
    have HB1 : Hid (Below w.heap.size w w1) := HB.out.trans (hb.mono HB.out.size)
    clear hb HB K1 K2
    go_wp2_with ((with_reducible show wpList _ _ _ (Oper.mk _ (Op.store 27 _ _) _ _ _ _ :: _) _ _); refine storeB (k2) rfl rfl rfl rfl ?_)
    try simp only [Exit.inBlock, Exit.then]
    exact retcttB (k2.row 16 _) rfl rfl rfl ⟨rfl, below_setRow HB1.out (by omega) _⟩
set_option maxHeartbeats 1000000 in
theorem implFirst_any (f : Nat → Int) (w : World) :
    Calls Try.prog 13 #[.agg (mk 16 f)] w fun e w' => e = .returned (.tuple #[.agg (mk 16 (fstRB f)), .int .i64 (fstRN f), .bool (vdO f)]) ∧ Below w.heap.size w w' := by
  have z16 := zero16
  have K1 := (Blk.new w 16 f 27).alloc (.cells (mk 16 fun _ => 0) 27)
  have K2 := Blk.new (w.alloc (.cells (mk 16 f) 27)) 16 (fun _ => 0) 27
  have HB := Lib.hid (((Below.refl w.heap.size w).alloc (Nat.le_refl _) (.cells (mk 16 f) 27)).alloc (by simp) (.cells (mk 16 fun _ => 0) 27))
  simp only [World.size_alloc] at K2
  by_cases hV : Vd f
  · obtain ⟨y1, y2⟩ := fstR_yes hV
    rw [y1, y2, vdO_yes hV]
    clear y1 y2
    have HV := Lib.hid hV
    clear hV
    go_enter Try.func13, Try.ntmps13
    go_wp2_with ((with_reducible show wpList _ _ _ (Oper.mk _ (Op.load 27 _) _ _ _ _ :: _) _ _); refine loadB (K1) rfl rfl rfl ?_)
    refine (implBoard_yes _ _ HV.out).mono ?_
    rintro e w1 ⟨rfl, hb⟩
    have k1 := K1.below hb K1.lt
    have k2 := K2.below hb K2.lt
    have HB1 : Hid (Below w.heap.size w w1) := HB.out.trans (hb.mono HB.out.size)
    clear hb HB K1 K2
    go_wp2_with ((with_reducible show wpList _ _ _ (Oper.mk _ (Op.load 27 _) _ _ _ _ :: _) _ _); refine loadB (k1) rfl rfl rfl ?_)
    refine (firstOf_any _ _ HV.out).mono ?_
    rintro e w2 ⟨rfl, hb⟩
    have k2 := (k2.below hb k2.lt).alloc (.cells (mk 16 (fstF f)) 27)
    have HB2 : Hid (Below w.heap.size w (w2.alloc (.cells (mk 16 (fstF f)) 27))) := (HB1.out.trans (hb.mono HB1.out.size)).alloc (HB1.out.trans (hb.mono HB1.out.size)).size _
    clear hb HB1
    have k5 := Blk.new w2 16 (fstF f) 27
    go_wp2_with (first | ((with_reducible show wpList _ _ _ (Oper.mk _ (Op.load 27 _) _ _ _ _ :: _) _ _); refine loadB (k5) rfl rfl rfl ?_) | ((with_reducible show wpList _ _ _ (Oper.mk _ (Op.store 27 _ _) _ _ _ _ :: _) _ _); refine storeB (k2) rfl rfl rfl rfl ?_))
    try simp only [Exit.inBlock, Exit.then]
    exact retcttB (k2.row 16 _) rfl rfl rfl ⟨rfl, below_setRow HB2.out (by omega) _⟩
  · obtain ⟨y1, y2⟩ := fstR_no hV
    rw [y1, y2, vdO_no hV]
    clear y1 y2
    have HV := Lib.hid hV
    clear hV
    go_enter Try.func13, Try.ntmps13
    go_wp2_with ((with_reducible show wpList _ _ _ (Oper.mk _ (Op.load 27 _) _ _ _ _ :: _) _ _); refine loadB (K1) rfl rfl rfl ?_)
    refine (implBoard_no _ _ HV.out).mono ?_
    rintro e w1 ⟨rfl, hb⟩
    have k2 := K2.below hb K2.lt
    have HB1 : Hid (Below w.heap.size w w1) := HB.out.trans (hb.mono HB.out.size)
    clear hb HB K1 K2
    go_wp2_with ((with_reducible show wpList _ _ _ (Oper.mk _ (Op.store 27 _ _) _ _ _ _ :: _) _ _); refine storeB (k2) rfl rfl rfl rfl ?_)
    try simp only [Exit.inBlock, Exit.then]
    exact retcttB (k2.row 16 _) rfl rfl rfl ⟨rfl, below_setRow HB1.out (by omega) _⟩
/-- What AreSameForm returns. -/
noncomputable def sfmR (f g : Nat → Int) : Bool := if Vd f ∧ Vd g then sameB (fstF f) (fstF g) else false
theorem sfm_yes {f g : Nat → Int} (h : Vd f) (k : Vd g) : sfmR f g = sameB (fstF f) (fstF g) ∧ lessO f g = true := by simp [sfmR, lessO, h, k]
theorem sfm_no1 {f g : Nat → Int} (h : ¬ Vd f) : sfmR f g = false ∧ lessO f g = false := by simp [sfmR, lessO, h]
theorem sfm_no2 {f g : Nat → Int} (h : ¬ Vd g) : sfmR f g = false ∧ lessO f g = false := by simp [sfmR, lessO, h]
set_option maxHeartbeats 1000000 in
set_option maxRecDepth 20000 in
theorem specSame_any (f g : Nat → Int) (w : World) :
    Calls Try.prog 26 #[.agg (mk 16 f), .agg (mk 16 g)] w fun e w' => e = .returned (.tuple #[.bool (sfmR f g), .bool (lessO f g)]) ∧ Below w.heap.size w w' := by
  have z16 := zero16
  have K1 := (Blk.new w 16 f 27).alloc (.cells (mk 16 g) 27)
  have K2 := Blk.new (w.alloc (.cells (mk 16 f) 27)) 16 g 27
  have HB := Lib.hid (((Below.refl w.heap.size w).alloc (Nat.le_refl _) (.cells (mk 16 f) 27)).alloc (by simp) (.cells (mk 16 g) 27))
  simp only [World.size_alloc] at K2
  have iE : ∀ (f g : Nat → Int) (w : World), (Op.equalIn 10000 27 (.agg (mk 16 f)) (.agg (mk 16 g))).run Try.prog w = .ok (sameB f g) w := eqB 9996
  by_cases hV : Vd f
  · by_cases hW : Vd g
    · obtain ⟨y1, y2⟩ := sfm_yes hV hW
      rw [y1, y2]
      clear y1 y2
      have HV := Lib.hid hV
      have HW := Lib.hid hW
      clear hV hW
      go_enter Try.func26, Try.ntmps26
      go_wp2_with ((with_reducible show wpList _ _ _ (Oper.mk _ (Op.load 27 _) _ _ _ _ :: _) _ _); refine loadB (K1) rfl rfl rfl ?_)
      refine (l2Board_yes _ _ HV.out).mono ?_
      rintro e w1 ⟨rfl, hb2⟩
      have K1 := K1.below hb2 K1.lt
      have K2 := K2.below hb2 K2.lt
      have HB : Hid (Below w.heap.size w w1) := HB.out.trans (hb2.mono HB.out.size)
      clear hb2
      go_wp2_with ((with_reducible show wpList _ _ _ (Oper.mk _ (Op.load 27 _) _ _ _ (some _) :: _) _ _); refine loadgB (K2) rfl rfl rfl ?_)
      refine (l2Board_yes _ _ HW.out).mono ?_
      rintro e w2 ⟨rfl, hb2⟩
      have K1 := K1.below hb2 K1.lt
      have K2 := K2.below hb2 K2.lt
      have HB : Hid (Below w.heap.size w w2) := HB.out.trans (hb2.mono HB.out.size)
      clear hb2
      go_wp2_with ((with_reducible show wpList _ _ _ (Oper.mk _ (Op.load 27 _) _ _ _ _ :: _) _ _); refine loadB (K1) rfl rfl rfl ?_)
      refine (l3First_any _ _).mono ?_
      rintro e w3 ⟨rfl, hb2⟩
      have K2 := (K2.below hb2 K2.lt).alloc (.cells (mk 16 (fstF f)) 27)
      have K3 := Blk.new w3 16 (fstF f) 27
      have HB : Hid (Below w.heap.size w (w3.alloc (.cells (mk 16 (fstF f)) 27))) := (HB.out.trans (hb2.mono HB.out.size)).alloc (HB.out.trans (hb2.mono HB.out.size)).size _
      clear hb2 K1
      go_wp2_with ((with_reducible show wpList _ _ _ (Oper.mk _ (Op.load 27 _) _ _ _ _ :: _) _ _); refine loadB (K2) rfl rfl rfl ?_)
      generalize w3.alloc (.cells (mk 16 (fstF f)) 27) = w4 at *
      refine (l3First_any _ _).mono ?_
      rintro e w5 ⟨rfl, hb2⟩
      have K3 := (K3.below hb2 K3.lt).alloc (.cells (mk 16 (fstF g)) 27)
      have K4 := Blk.new w5 16 (fstF g) 27
      have HB : Hid (Below w.heap.size w (w5.alloc (.cells (mk 16 (fstF g)) 27))) := (HB.out.trans (hb2.mono HB.out.size)).alloc (HB.out.trans (hb2.mono HB.out.size)).size _
      clear hb2 K2
      go_wp2_with (first | ((with_reducible show wpList _ _ _ (Oper.mk _ (Op.load 27 _) _ _ _ _ :: _) _ _); refine loadB (K3) rfl rfl rfl ?_) | ((with_reducible show wpList _ _ _ (Oper.mk _ (Op.load 27 _) _ _ _ _ :: _) _ _); refine loadB (K4) rfl rfl rfl ?_) | ((with_reducible show wpList _ _ _ (Oper.mk _ (Op.load 25 _) _ _ _ _ :: _) _ _); refine loadG (K3) rfl rfl rfl ?_) | ((with_reducible show wpList _ _ _ (Oper.mk _ (Op.load 25 _) _ _ _ _ :: _) _ _); refine loadG (K4) rfl rfl rfl ?_))
      go_ret2
      exact ⟨rfl, HB.out⟩
    · obtain ⟨y1, y2⟩ := sfm_no2 (f := f) hW
      rw [y1, y2]
      clear y1 y2
      have HV := Lib.hid hV
      have HW := Lib.hid hW
      clear hV hW
      go_enter Try.func26, Try.ntmps26
      go_wp2_with ((with_reducible show wpList _ _ _ (Oper.mk _ (Op.load 27 _) _ _ _ _ :: _) _ _); refine loadB (K1) rfl rfl rfl ?_)
      refine (l2Board_yes _ _ HV.out).mono ?_
      rintro e w1 ⟨rfl, hb2⟩
      have K1 := K1.below hb2 K1.lt
      have K2 := K2.below hb2 K2.lt
      have HB : Hid (Below w.heap.size w w1) := HB.out.trans (hb2.mono HB.out.size)
      clear hb2
      go_wp2_with ((with_reducible show wpList _ _ _ (Oper.mk _ (Op.load 27 _) _ _ _ (some _) :: _) _ _); refine loadgB (K2) rfl rfl rfl ?_)
      refine (l2Board_no _ _ HW.out).mono ?_
      rintro e w2 ⟨rfl, hb2⟩
      have K1 := K1.below hb2 K1.lt
      have K2 := K2.below hb2 K2.lt
      have HB : Hid (Below w.heap.size w w2) := HB.out.trans (hb2.mono HB.out.size)
      clear hb2
      go_wp2_with fail
      go_ret2
      exact ⟨rfl, HB.out⟩
  · obtain ⟨y1, y2⟩ := sfm_no1 (g := g) hV
    rw [y1, y2]
    clear y1 y2
    have HV := Lib.hid hV
    clear hV
    go_enter Try.func26, Try.ntmps26
    go_wp2_with ((with_reducible show wpList _ _ _ (Oper.mk _ (Op.load 27 _) _ _ _ _ :: _) _ _); refine loadB (K1) rfl rfl rfl ?_)
    refine (l2Board_no _ _ HV.out).mono ?_
    rintro e w1 ⟨rfl, hb2⟩
    have K1 := K1.below hb2 K1.lt
    have K2 := K2.below hb2 K2.lt
    have HB : Hid (Below w.heap.size w w1) := HB.out.trans (hb2.mono HB.out.size)
    clear hb2
    go_wp2_with fail
    go_ret2
    exact ⟨rfl, HB.out⟩
set_option maxHeartbeats 1000000 in
set_option maxRecDepth 20000 in
theorem implSame_any (f g : Nat → Int) (w : World) :
    Calls Try.prog 25 #[.agg (mk 16 f), .agg (mk 16 g)] w fun e w' => e = .returned (.tuple #[.bool (sfmR f g), .bool (lessO f g)]) ∧ Below w.heap.size w w' := by
  have z16 := zero16
  have K1 := (Blk.new w 16 f 27).alloc (.cells (mk 16 g) 27)
  have K2 := Blk.new (w.alloc (.cells (mk 16 f) 27)) 16 g 27
  have HB := Lib.hid (((Below.refl w.heap.size w).alloc (Nat.le_refl _) (.cells (mk 16 f) 27)).alloc (by simp) (.cells (mk 16 g) 27))
  simp only [World.size_alloc] at K2
  have iE : ∀ (f g : Nat → Int) (w : World), (Op.equalIn 10000 25 (.agg (mk 16 f)) (.agg (mk 16 g))).run Try.prog w = .ok (sameB f g) w := eqG 9997
  by_cases hV : Vd f
  · by_cases hW : Vd g
    · obtain ⟨y1, y2⟩ := sfm_yes hV hW
      rw [y1, y2]
      clear y1 y2
      have HV := Lib.hid hV
      have HW := Lib.hid hW
      clear hV hW
      go_enter Try.func25, Try.ntmps25
      go_wp2_with ((with_reducible show wpList _ _ _ (Oper.mk _ (Op.load 27 _) _ _ _ _ :: _) _ _); refine loadB (K1) rfl rfl rfl ?_)
      refine (implBoard_yes _ _ HV.out).mono ?_
      rintro e w1 ⟨rfl, hb2⟩
      have K1 := K1.below hb2 K1.lt
      have K2 := K2.below hb2 K2.lt
      have HB : Hid (Below w.heap.size w w1) := HB.out.trans (hb2.mono HB.out.size)
      clear hb2
      go_wp2_with ((with_reducible show wpList _ _ _ (Oper.mk _ (Op.load 27 _) _ _ _ (some _) :: _) _ _); refine loadgB (K2) rfl rfl rfl ?_)
      refine (implBoard_yes _ _ HW.out).mono ?_
      rintro e w2 ⟨rfl, hb2⟩
      have K1 := K1.below hb2 K1.lt
      have K2 := K2.below hb2 K2.lt
      have HB : Hid (Below w.heap.size w w2) := HB.out.trans (hb2.mono HB.out.size)
      clear hb2
      go_wp2_with ((with_reducible show wpList _ _ _ (Oper.mk _ (Op.load 27 _) _ _ _ _ :: _) _ _); refine loadB (K1) rfl rfl rfl ?_)
      refine (firstOf_any _ _ HV.out).mono ?_
      rintro e w3 ⟨rfl, hb2⟩
      have K2 := (K2.below hb2 K2.lt).alloc (.cells (mk 16 (fstF f)) 27)
      have K3 := Blk.new w3 16 (fstF f) 27
      have HB : Hid (Below w.heap.size w (w3.alloc (.cells (mk 16 (fstF f)) 27))) := (HB.out.trans (hb2.mono HB.out.size)).alloc (HB.out.trans (hb2.mono HB.out.size)).size _
      clear hb2 K1
      go_wp2_with ((with_reducible show wpList _ _ _ (Oper.mk _ (Op.load 27 _) _ _ _ _ :: _) _ _); refine loadB (K2) rfl rfl rfl ?_)
      generalize w3.alloc (.cells (mk 16 (fstF f)) 27) = w4 at *
      refine (firstOf_any _ _ HW.out).mono ?_
      rintro e w5 ⟨rfl, hb2⟩
      have K3 := (K3.below hb2 K3.lt).alloc (.cells (mk 16 (fstF g)) 27)
      have K4 := Blk.new w5 16 (fstF g) 27
      have HB : Hid (Below w.heap.size w (w5.alloc (.cells (mk 16 (fstF g)) 27))) := (HB.out.trans (hb2.mono HB.out.size)).alloc (HB.out.trans (hb2.mono HB.out.size)).size _
      clear hb2 K2
      go_wp2_with (first | ((with_reducible show wpList _ _ _ (Oper.mk _ (Op.load 27 _) _ _ _ _ :: _) _ _); refine loadB (K3) rfl rfl rfl ?_) | ((with_reducible show wpList _ _ _ (Oper.mk _ (Op.load 27 _) _ _ _ _ :: _) _ _); refine loadB (K4) rfl rfl rfl ?_) | ((with_reducible show wpList _ _ _ (Oper.mk _ (Op.load 25 _) _ _ _ _ :: _) _ _); refine loadG (K3) rfl rfl rfl ?_) | ((with_reducible show wpList _ _ _ (Oper.mk _ (Op.load 25 _) _ _ _ _ :: _) _ _); refine loadG (K4) rfl rfl rfl ?_))
      go_ret2
      exact ⟨rfl, HB.out⟩
    · obtain ⟨y1, y2⟩ := sfm_no2 (f := f) hW
      rw [y1, y2]
      clear y1 y2
      have HV := Lib.hid hV
      have HW := Lib.hid hW
      clear hV hW
      go_enter Try.func25, Try.ntmps25
      go_wp2_with ((with_reducible show wpList _ _ _ (Oper.mk _ (Op.load 27 _) _ _ _ _ :: _) _ _); refine loadB (K1) rfl rfl rfl ?_)
      refine (implBoard_yes _ _ HV.out).mono ?_
      rintro e w1 ⟨rfl, hb2⟩
      have K1 := K1.below hb2 K1.lt
      have K2 := K2.below hb2 K2.lt
      have HB : Hid (Below w.heap.size w w1) := HB.out.trans (hb2.mono HB.out.size)
      clear hb2
      go_wp2_with ((with_reducible show wpList _ _ _ (Oper.mk _ (Op.load 27 _) _ _ _ (some _) :: _) _ _); refine loadgB (K2) rfl rfl rfl ?_)
      refine (implBoard_no _ _ HW.out).mono ?_
      rintro e w2 ⟨rfl, hb2⟩
      have K1 := K1.below hb2 K1.lt
      have K2 := K2.below hb2 K2.lt
      have HB : Hid (Below w.heap.size w w2) := HB.out.trans (hb2.mono HB.out.size)
      clear hb2
      go_wp2_with fail
      go_ret2
      exact ⟨rfl, HB.out⟩
  · obtain ⟨y1, y2⟩ := sfm_no1 (g := g) hV
    rw [y1, y2]
    clear y1 y2
    have HV := Lib.hid hV
    clear hV
    go_enter Try.func25, Try.ntmps25
    go_wp2_with ((with_reducible show wpList _ _ _ (Oper.mk _ (Op.load 27 _) _ _ _ _ :: _) _ _); refine loadB (K1) rfl rfl rfl ?_)
    refine (implBoard_no _ _ HV.out).mono ?_
    rintro e w1 ⟨rfl, hb2⟩
    have K1 := K1.below hb2 K1.lt
    have K2 := K2.below hb2 K2.lt
    have HB : Hid (Below w.heap.size w w1) := HB.out.trans (hb2.mono HB.out.size)
    clear hb2
    go_wp2_with fail
    go_ret2
    exact ⟨rfl, HB.out⟩
end Go.Proofs.Ytpiegllffkjneaa
