/-
  The contracts of SettleRow, in the reference and in the program, for every row.
-/
import Derived.Test.YtfikbbhlenopfaaRowsA
import Derived.Test.YtfikbbhlenopfaaEqs
namespace Go.Proofs.Ytfikbbhlenopfaa
open Go.RowKit Plain
attribute [local go_sem] store_new

/-- How a row settles, from here on: how often it changes still, and what becomes of it. -/
def StAt (f : Nat → Int) (g : Nat) (r : Nat → Int) (t : Nat) : Prop := VdRow r ∧ ms r < g ∧ (st g r).1 = (st 5 f).1 ∧ t + (st g r).2 = (st 5 f).2
theorem stAt_start {f : Nat → Int} (h : VdRow f) : StAt f 5 f 0 := ⟨h, by have := ms_le f; omega, rfl, by simp⟩
theorem stAt_end {f : Nat → Int} {g : Nat} {r : Nat → Int} {t : Nat} (h : StAt f (g + 1) r t) (hs : sameR (slid r 4).row r = true) : r = (st 5 f).1 ∧ t = (st 5 f).2 := by
  obtain ⟨_, _, h3, h4⟩ := h
  rw [st_done hs] at h3 h4
  exact ⟨h3, by simpa using h4⟩
theorem stAt_step {f : Nat → Int} {g : Nat} {r : Nat → Int} {t : Nat} (h : StAt f (g + 1) r t) (hs : sameR (slid r 4).row r = false) : StAt f g (slid r 4).row (t + 1) := by
  obtain ⟨h1, h2, h3, h4⟩ := h
  rw [st_more hs] at h3 h4
  have := ms_slid h1 hs
  refine ⟨slid_vd h1, by omega, h3, ?_⟩
  have h5 : t + ((st g (slid r 4).row).2 + 1) = (st 5 f).2 := h4
  omega
theorem stAt_le {f : Nat → Int} (hf : VdRow f) {g : Nat} {r : Nat → Int} {t : Nat} (h : StAt f g r t) : t ≤ 4 := by
  have h1 := st_le 5 f hf
  have h2 := ms_le f
  have h3 := h.2.2.2
  omega
set_option maxHeartbeats 1000000 in
theorem l4Settle_any (f : Nat → Int) (w : World) (hV : VdRow f) :
    Calls Try.prog 171 #[.agg (mk 4 f)] w fun e w' => e = .returned (.tuple #[.agg (mk 4 (st 5 f).1), .int .i64 ((st 5 f).2 : Nat)]) ∧ Below w.heap.size w w' := by
  have K1 := (Blk.new w 4 f 24).alloc (.cells (mk 4 fun _ => 0) 24)
  have K2 := Blk.new (w.alloc (.cells (mk 4 f) 24)) 4 (fun _ => 0) 24
  have HB := Lib.hid (((Below.refl w.heap.size w).alloc (Nat.le_refl _) (.cells (mk 4 f) 24)).alloc (by simp) (.cells (mk 4 fun _ => 0) 24))
  simp only [World.size_alloc] at K2
  have z4 := zero4
  have HV := Lib.hid hV
  have iE : ∀ (f g : Nat → Int) (w : World), (Op.equalIn 10000 24 (.agg (mk 4 f)) (.agg (mk 4 g))).run Try.prog w = .ok (sameR f g) w := eqR 9998
  clear hV
  go_enter Try.func171, Try.ntmps171
  go_wp2_with fail
  generalize (w.alloc (.cells (mk 4 f) 24)).alloc (.cells (mk 4 fun _ => 0) 24) = w1 at *
  go_loopg [4] 5 (fun g s4 wr => ∃ (r : Nat → Int) (t : Nat), s4 = .int .i64 t ∧ Hid (StAt f g r t) ∧
    Blk wr w.heap.size 4 r 24 ∧ Blk wr (w.heap.size + 1) 4 (fun _ => 0) 24 ∧ Hid (Below w.heap.size w wr))
  case atStart => exact ⟨f, 0, rfl, stAt_start HV.out, K1, K2, HB⟩
  case round =>
    obtain ⟨r, t, rfl, HS, k1, k2, hb⟩ := hrel
    cases gk with
    | zero => exact absurd HS.out.2.1 (by omega)
    | succ g =>
      have ht := stAt_le HV.out HS.out
      go_wp2_with ((with_reducible show wpList _ _ _ (Oper.mk _ (Op.load 24 _) _ _ _ _ :: _) _ _); refine loadR (k1) rfl rfl rfl ?_)
      refine (l2Row_any r _ HS.out.1).mono ?_
      rintro e w3 ⟨rfl, hb3⟩
      have k1 := k1.below hb3 k1.lt
      have k2 := k2.below hb3 k2.lt
      have l1 : w.heap.size < w3.heap.size := k1.lt
      have l2 : w.heap.size + 1 < w3.heap.size := k2.lt
      have k1 := k1.alloc (.cells (mk 4 (slid r 4).row) 24)
      have k2 := k2.alloc (.cells (mk 4 (slid r 4).row) 24)
      have k3 := Blk.new w3 4 (slid r 4).row 24
      have HB3 : Hid (Below w.heap.size w w3) := hb.out.trans (hb3.mono hb.out.size)
      have HB4 : Hid (Below w.heap.size w (w3.alloc (.cells (mk 4 (slid r 4).row) 24))) := HB3.out.alloc HB3.out.size _
      clear hb3 hb HB3
      cases hq : sameR (slid r 4).row r with
      | true =>
        have HE := Lib.hid (stAt_end HS.out hq)
        go_wp2_with (first | ((with_reducible show wpList _ _ _ (Oper.mk _ (Op.load 24 _) _ _ _ _ :: _) _ _); refine loadR (k1) rfl rfl rfl ?_) | ((with_reducible show wpList _ _ _ (Oper.mk _ (Op.load 24 _) _ _ _ _ :: _) _ _); refine loadR (k3) rfl rfl rfl ?_) | ((with_reducible show wpList _ _ _ (Oper.mk _ (Op.store 24 _ _) _ _ _ _ :: _) _ _); refine storeR (k2) rfl rfl rfl rfl ?_))
        try simp only [Exit.inBlock, Exit.then]
        try rw [Exit.noGoto_ret]
        refine retctR (k2.row 4 _) rfl rfl rfl ⟨?_, below_setRow HB4.out (by omega) _⟩
        rw [HE.out.1, HE.out.2]
        rfl
      | false =>
        have HE := Lib.hid (stAt_step HS.out hq)
        go_wp2_with (first | ((with_reducible show wpList _ _ _ (Oper.mk _ (Op.load 24 _) _ _ _ _ :: _) _ _); refine loadR (k1) rfl rfl rfl ?_) | ((with_reducible show wpList _ _ _ (Oper.mk _ (Op.load 24 _) _ _ _ _ :: _) _ _); refine loadR (k3) rfl rfl rfl ?_) | ((with_reducible show wpList _ _ _ (Oper.mk _ (Op.store 24 _ _) _ _ _ _ :: _) _ _); refine storeR (k1) rfl rfl rfl rfl ?_))
        go_roundg g
        case rel => exact ⟨_, t + 1, by go_num, HE.out, k1.row 4 _, k2.rowOther _ _ (by omega), below_setRow HB4.out (by omega) _⟩
        case measure => omega
set_option maxHeartbeats 1000000 in
theorem specSettle_no (f : Nat → Int) (w : World) (hV : ¬ VdRow f) :
    Calls Try.prog 91 #[.agg (mk 4 f)] w fun e w' => e = .returned (.tuple #[.agg (mk 4 (stR f)), .int .i64 (stT f), .bool (rwO f)]) ∧ Below w.heap.size w w' := by
  have K1 := (Blk.new w 4 f 24).alloc (.cells (mk 4 fun _ => 0) 24)
  have K2 := Blk.new (w.alloc (.cells (mk 4 f) 24)) 4 (fun _ => 0) 24
  have HB := Lib.hid (((Below.refl w.heap.size w).alloc (Nat.le_refl _) (.cells (mk 4 f) 24)).alloc (by simp) (.cells (mk 4 fun _ => 0) 24))
  simp only [World.size_alloc] at K2
  have z4 := zero4
  obtain ⟨y1, y2⟩ := st_no hV
  rw [y1, y2, rwO_no hV]
  have HO := Lib.hid (rwO_no hV)
  clear hV y1 y2
  go_enter Try.func91, Try.ntmps91
  go_wp2_with ((with_reducible show wpList _ _ _ (Oper.mk _ (Op.load 24 _) _ _ _ _ :: _) _ _); refine loadR (K1) rfl rfl rfl ?_)
  refine (l4Row_any _ _).mono ?_
  rw [HO.out]
  rintro e w1 ⟨rfl, hb⟩
  have K1 := K1.below hb K1.lt
  have K2 := K2.below hb K2.lt
  have HB : Hid (Below w.heap.size w w1) := HB.out.trans (hb.mono HB.out.size)
  clear hb
  go_wp2_with ((with_reducible show wpList _ _ _ (Oper.mk _ (Op.store 24 _ _) _ _ _ _ :: _) _ _); refine storeR (K2) rfl rfl rfl rfl ?_)
  try simp only [Exit.inBlock, Exit.then]
  exact retcttR (K2.row 4 _) rfl rfl rfl ⟨rfl, below_setRow HB.out (by omega) _⟩
set_option maxHeartbeats 1000000 in
theorem implSettle_no (f : Nat → Int) (w : World) (hV : ¬ VdRow f) :
    Calls Try.prog 90 #[.agg (mk 4 f)] w fun e w' => e = .returned (.tuple #[.agg (mk 4 (stR f)), .int .i64 (stT f), .bool (rwO f)]) ∧ Below w.heap.size w w' := by
  have K1 := (Blk.new w 4 f 24).alloc (.cells (mk 4 fun _ => 0) 24)
  have K2 := Blk.new (w.alloc (.cells (mk 4 f) 24)) 4 (fun _ => 0) 24
  have HB := Lib.hid (((Below.refl w.heap.size w).alloc (Nat.le_refl _) (.cells (mk 4 f) 24)).alloc (by simp) (.cells (mk 4 fun _ => 0) 24))
  simp only [World.size_alloc] at K2
  have z4 := zero4
  obtain ⟨y1, y2⟩ := st_no hV
  rw [y1, y2, rwO_no hV]
  have HO := Lib.hid (rwO_no hV)
  clear hV y1 y2
  go_enter Try.func90, Try.ntmps90
  go_wp2_with ((with_reducible show wpList _ _ _ (Oper.mk _ (Op.load 24 _) _ _ _ _ :: _) _ _); refine loadR (K1) rfl rfl rfl ?_)
  refine (implIsRow_any _ _).mono ?_
  rw [HO.out]
  rintro e w1 ⟨rfl, hb⟩
  have K1 := K1.below hb K1.lt
  have K2 := K2.below hb K2.lt
  have HB : Hid (Below w.heap.size w w1) := HB.out.trans (hb.mono HB.out.size)
  clear hb
  go_wp2_with ((with_reducible show wpList _ _ _ (Oper.mk _ (Op.store 24 _ _) _ _ _ _ :: _) _ _); refine storeR (K2) rfl rfl rfl rfl ?_)
  try simp only [Exit.inBlock, Exit.then]
  exact retcttR (K2.row 4 _) rfl rfl rfl ⟨rfl, below_setRow HB.out (by omega) _⟩
set_option maxHeartbeats 1000000 in
theorem specSettle_any (f : Nat → Int) (w : World) :
    Calls Try.prog 91 #[.agg (mk 4 f)] w fun e w' => e = .returned (.tuple #[.agg (mk 4 (stR f)), .int .i64 (stT f), .bool (rwO f)]) ∧ Below w.heap.size w w' := by
  by_cases hV : VdRow f
  · skip
    have K1 := (Blk.new w 4 f 24).alloc (.cells (mk 4 fun _ => 0) 24)
    have K2 := Blk.new (w.alloc (.cells (mk 4 f) 24)) 4 (fun _ => 0) 24
    have HB := Lib.hid (((Below.refl w.heap.size w).alloc (Nat.le_refl _) (.cells (mk 4 f) 24)).alloc (by simp) (.cells (mk 4 fun _ => 0) 24))
    simp only [World.size_alloc] at K2
    have z4 := zero4
    obtain ⟨y1, y2⟩ := st_yes hV
    rw [y1, y2, rwO_yes hV]
    have HV := Lib.hid hV
    have HO := Lib.hid (rwO_yes hV)
    clear hV y1 y2
    go_enter Try.func91, Try.ntmps91
    go_wp2_with ((with_reducible show wpList _ _ _ (Oper.mk _ (Op.load 24 _) _ _ _ _ :: _) _ _); refine loadR (K1) rfl rfl rfl ?_)
    refine (l4Row_any _ _).mono ?_
    rw [HO.out]
    rintro e w1 ⟨rfl, hb⟩
    have K1 := K1.below hb K1.lt
    have K2 := K2.below hb K2.lt
    have HB : Hid (Below w.heap.size w w1) := HB.out.trans (hb.mono HB.out.size)
    clear hb
    go_wp2_with ((with_reducible show wpList _ _ _ (Oper.mk _ (Op.load 24 _) _ _ _ _ :: _) _ _); refine loadR (K1) rfl rfl rfl ?_)
    refine (l4Settle_any f _ HV.out).mono ?_
    rintro e w2 ⟨rfl, hb⟩
    have K1 := K1.below hb K1.lt
    have K2 := K2.below hb K2.lt
    have HB : Hid (Below w.heap.size w w2) := HB.out.trans (hb.mono HB.out.size)
    clear hb
    have l2 := K2.lt
    go_wp2_with (first | ((with_reducible show wpList _ _ _ (Oper.mk _ (Op.load 24 _) _ _ _ _ :: _) _ _); refine loadR (Blk.new _ _ _ _) rfl rfl rfl ?_) | ((with_reducible show wpList _ _ _ (Oper.mk _ (Op.store 24 _ _) _ _ _ _ :: _) _ _); refine storeR (K2.alloc _) rfl rfl rfl rfl ?_))
    try simp only [Exit.inBlock, Exit.then]
    exact retcttR ((K2.alloc _).row 4 _) rfl rfl rfl ⟨rfl, below_setRow (HB.out.alloc HB.out.size _) (by omega) _⟩
  · exact specSettle_no f w hV
set_option maxHeartbeats 2000000 in
theorem implSettle_any (f : Nat → Int) (w : World) :
    Calls Try.prog 90 #[.agg (mk 4 f)] w fun e w' => e = .returned (.tuple #[.agg (mk 4 (stR f)), .int .i64 (stT f), .bool (rwO f)]) ∧ Below w.heap.size w w' := by
  by_cases hV : VdRow f
  · skip
    have K1 := (Blk.new w 4 f 24).alloc (.cells (mk 4 fun _ => 0) 24)
    have K2 := Blk.new (w.alloc (.cells (mk 4 f) 24)) 4 (fun _ => 0) 24
    have HB := Lib.hid (((Below.refl w.heap.size w).alloc (Nat.le_refl _) (.cells (mk 4 f) 24)).alloc (by simp) (.cells (mk 4 fun _ => 0) 24))
    simp only [World.size_alloc] at K2
    have z4 := zero4
    obtain ⟨y1, y2⟩ := st_yes hV
    rw [y1, y2, rwO_yes hV]
    have HV := Lib.hid hV
    have HO := Lib.hid (rwO_yes hV)
    have iN := neqR
    clear hV y1 y2
    go_enter Try.func90, Try.ntmps90
    go_wp2_with ((with_reducible show wpList _ _ _ (Oper.mk _ (Op.load 24 _) _ _ _ _ :: _) _ _); refine loadR (K1) rfl rfl rfl ?_)
    refine (implIsRow_any _ _).mono ?_
    rw [HO.out]
    rintro e w1 ⟨rfl, hb⟩
    have K1 := K1.below hb K1.lt
    have K2 := K2.below hb K2.lt
    have HB : Hid (Below w.heap.size w w1) := HB.out.trans (hb.mono HB.out.size)
    clear hb
    go_wp2_with ((with_reducible show wpList _ _ _ (Oper.mk _ (Op.load 24 _) _ _ _ _ :: _) _ _); refine loadR (K1) rfl rfl rfl ?_)
    refine (slideLine_any f _ HV.out).mono ?_
    rintro e w2 ⟨rfl, hb⟩
    have K1 := K1.below hb K1.lt
    have K2 := K2.below hb K2.lt
    have HB : Hid (Below w.heap.size w w2) := HB.out.trans (hb.mono HB.out.size)
    clear hb
    have l1 : w.heap.size < w2.heap.size := K1.lt
    have l2 : w.heap.size + 1 < w2.heap.size := K2.lt
    have K1 := K1.alloc (.cells (mk 4 (slid f 4).row) 24)
    have K2 := K2.alloc (.cells (mk 4 (slid f 4).row) 24)
    have K3 := Blk.new w2 4 (slid f 4).row 24
    have HB : Hid (Below w.heap.size w (w2.alloc (.cells (mk 4 (slid f 4).row) 24))) := HB.out.alloc HB.out.size _
    go_wp2_with fail
    generalize hB : w2.heap.size = B3 at *
    generalize w2.alloc (.cells (mk 4 (slid f 4).row) 24) = w3 at *
    go_loopg [5] 5 (fun g s5 wr => ∃ (r : Nat → Int) (t : Nat), s5 = .int .i64 t ∧ Hid (StAt f g r t) ∧
      Blk wr w.heap.size 4 r 24 ∧ Blk wr (w.heap.size + 1) 4 (fun _ => 0) 24 ∧ Blk wr B3 4 (slid r 4).row 24 ∧ Hid (Below w.heap.size w wr))
    case atStart => exact ⟨f, 0, rfl, stAt_start HV.out, K1, K2, K3, HB⟩
    case round =>
      obtain ⟨r, t, rfl, HS, k1, k2, k3, hb⟩ := hrel
      cases gk with
      | zero => exact absurd HS.out.2.1 (by omega)
      | succ g =>
        have ht := stAt_le HV.out HS.out
        cases hq : sameR (slid r 4).row r with
        | true =>
          have HE := Lib.hid (stAt_end HS.out hq)
          go_wp2_with (first | ((with_reducible show wpList _ _ _ (Oper.mk _ (Op.load 24 _) _ _ _ _ :: _) _ _); refine loadR (k1) rfl rfl rfl ?_) | ((with_reducible show wpList _ _ _ (Oper.mk _ (Op.load 24 _) _ _ _ _ :: _) _ _); refine loadR (k3) rfl rfl rfl ?_) | ((with_reducible show wpList _ _ _ (Oper.mk _ (Op.store 24 _ _) _ _ _ _ :: _) _ _); refine storeR (k2) rfl rfl rfl rfl ?_))
          try simp only [Exit.inBlock, Exit.then]
          refine retcttR (k2.row 4 _) rfl rfl rfl ⟨?_, below_setRow hb.out (by omega) _⟩
          rw [HE.out.1, HE.out.2]
          rfl
        | false =>
          have HE := Lib.hid (stAt_step HS.out hq)
          have k1' := k1.row 4 (slid r 4).row
          go_wp2_with (first | ((with_reducible show wpList _ _ _ (Oper.mk _ (Op.load 24 _) _ _ _ _ :: _) _ _); refine loadR (k1) rfl rfl rfl ?_) | ((with_reducible show wpList _ _ _ (Oper.mk _ (Op.load 24 _) _ _ _ _ :: _) _ _); refine loadR (k3) rfl rfl rfl ?_) | ((with_reducible show wpList _ _ _ (Oper.mk _ (Op.store 24 _ _) _ _ _ _ :: _) _ _); refine storeR (k1) rfl rfl rfl rfl ?_) | ((with_reducible show wpList _ _ _ (Oper.mk _ (Op.load 24 _) _ _ _ _ :: _) _ _); refine loadR (k1') rfl rfl rfl ?_))
          refine (slideLine_any _ _ HE.out.1).mono ?_
          rintro e w6 ⟨rfl, hb6⟩
          have k2' := k2.rowOther w.heap.size (mk 4 (slid r 4).row) (by omega)
          have k3' := k3.rowOther w.heap.size (mk 4 (slid r 4).row) (by omega)
          have HB5 := Lib.hid (below_setRow hb.out (Nat.le_refl _) (mk 4 (slid r 4).row))
          have k1 := k1'.below hb6 k1'.lt
          have k2 := k2'.below hb6 k2'.lt
          have k3 := k3'.below hb6 k3'.lt
          have HB6 : Hid (Below w.heap.size w w6) := HB5.out.trans (hb6.mono HB5.out.size)
          clear hb6 k1' k2' k3' HB5 hb
          go_wp2_with ((with_reducible show wpList _ _ _ (Oper.mk _ (Op.store 24 _ _) _ _ _ _ :: _) _ _); refine storeR (k3) rfl rfl rfl rfl ?_)
          go_roundg g
          case rel => exact ⟨_, t + 1, by go_num, HE.out, k1.rowOther _ _ (by omega), k2.rowOther _ _ (by omega), k3.row 4 _, below_setRow HB6.out (by omega) _⟩
          case measure => omega
  · exact implSettle_no f w hV
end Go.Proofs.Ytfikbbhlenopfaa
