/-
  The contracts of IsRow and SlideRow, in the reference and in the program, for every row.
-/
import Derived.Test.YtpiegllffkjneaaPlainA
import Derived.Test.YtpiegllffkjneaaSpecRow
import Derived.Test.YtpiegllffkjneaaSlideLine
import Derived.Test.YtpiegllffkjneaaBaseA
namespace Go.Proofs.Ytpiegllffkjneaa
open Go.RowKit Plain
attribute [local go_sem] store_new

set_option maxHeartbeats 400000 in
theorem l4Row_any (f : Nat → Int) (w : World) :
    Calls Try.prog 137 #[.agg (mk 4 f)] w fun e w' => e = .returned (.bool (rwO f)) ∧ Below w.heap.size w w' := by
  go_enter Try.func137, Try.ntmps137
  go_wp2_with fail
  have K := Blk.new w 4 f 24
  have HB := Lib.hid ((Below.refl w.heap.size w).alloc (Nat.le_refl _) (.cells (mk 4 f) 24))
  generalize w.alloc (.cells (mk 4 f) 24) = w1 at *
  go_loopg [3] 4 (fun g s3 wx => ∃ c : Nat, c + g = 4 ∧ s3 = .int .i64 c ∧ Hid (∀ j, j < c → 0 ≤ f j ∧ f j ≤ 17) ∧ w1 = wx)
  case atStart => exact ⟨0, by omega, rfl, fun j hj => by omega, rfl⟩
  case round =>
    obtain ⟨c, hch, rfl, HW, rfl⟩ := hrel
    cases gk with
    | zero =>
      have hc : ¬ ((c : Int) < 4) := by omega
      have HC : Hid (c = 4) := by show c = 4; omega
      clear hch
      go_wp2_with fail
      go_ret
      exact ⟨by rw [rwO_yes (fun j hj => HW.out j (by rw [HC.out]; exact hj))]; rfl, HB.out⟩
    | succ h =>
      have hc : (c : Int) < 4 := by omega
      have k1 := K.cell (i := c) (by omega)
      have hi : c < 4 := by omega
      by_cases hx : 0 ≤ f c ∧ f c ≤ 17
      · have HX : Hid (∀ j, j < c + 1 → 0 ≤ f j ∧ f j ≤ 17) := by
          intro j hj
          by_cases e : j = c
          · rw [e]; exact hx
          · exact HW.out j (by omega)
        obtain ⟨x0, x1⟩ := hx
        generalize f c = x at k1 x0 x1
        go_wp2_with fail
        refine (l1In_yes x 0 17 _ x0 x1).mono ?_
        rintro e w' ⟨rfl, rfl⟩
        go_wp2_with fail
        go_roundg h
        case rel => exact ⟨c + 1, by omega, by go_num, HX, rfl⟩
        case measure => omega
      · have HN : Hid (rwO f = false) := rwO_no fun h => hx (h _ hi)
        have H := Lib.hid (show f c < 0 ∨ 17 < f c by omega)
        clear hx
        generalize f c = x at k1 H
        go_wp2_with fail
        refine (l1In_no x 0 17 _ H.out).mono ?_
        rintro e w' ⟨rfl, rfl⟩
        go_wp2_with fail
        try rw [Exit.noGoto_ret]
        go_ret
        exact ⟨by rw [HN.out]; rfl, HB.out⟩
theorem top_lit (a b c d : Int) : (#[.int .i64 a, .int .i64 b, .int .i64 c, .int .i64 d, .int .i64 0, .int .i64 0, .int .i64 0, .int .i64 0, .int .i64 0, .int .i64 0, .int .i64 0, .int .i64 0, .int .i64 0, .int .i64 0, .int .i64 0, .int .i64 0] : Array Value) = mk 16 (topF (qd a b c d)) := rfl
theorem topF_congr {f g : Nat → Int} (h : ∀ i, i < 4 → f i = g i) (j : Nat) : topF f j = topF g j := by
  unfold topF
  split
  · exact h j (by assumption)
  · rfl
theorem four_lit (f : Nat → Int) : mk 4 f = #[.int .i64 (f 0), .int .i64 (f 1), .int .i64 (f 2), .int .i64 (f 3)] := rfl
theorem implIsRow_any (f : Nat → Int) (w : World) :
    Calls Try.prog 60 #[.agg (mk 4 f)] w fun e w' => e = .returned (.bool (rwO f)) ∧ Below w.heap.size w w' := by
  have K := Blk.new w 4 f 24
  have HB := Lib.hid ((Below.refl w.heap.size w).alloc (Nat.le_refl _) (.cells (mk 4 f) 24))
  have HT : Hid (mk 16 (topF (qd (f 0) (f 1) (f 2) (f 3))) = mk 16 (topF f)) := by
    show _ = _
    exact mk_congr fun j _ => (topF_congr (qd_line f) j).symm
  have e4 := four_lit f
  go_enter Try.func60, Try.ntmps60
  go_wp2_with ((with_reducible show wpList _ _ _ (Oper.mk _ (Op.load 24 _) _ _ _ _ :: _) _ _); refine loadR (K) rfl rfl rfl ?_)
  rw [top_lit, HT.out]
  refine (implBoard_any _ _).mono ?_
  rintro e w1 ⟨h, hb⟩
  have HB : Hid (Below w.heap.size w w1) := HB.out.trans (hb.mono HB.out.size)
  clear hb K e4
  have h2 : e = .returned (.bool (rwO f)) := by
    rcases h with ⟨h, rfl⟩ | ⟨h, rfl⟩
    · rw [rwO_yes (topF_vd.1 h)]
    · rw [rwO_no (fun k => h (topF_vd.2 k))]
  subst h2
  clear h
  go_wp2_with fail
  go_ret
  exact ⟨rfl, HB.out⟩

set_option maxHeartbeats 400000 in
theorem specSlideRow_any (f : Nat → Int) (w : World) :
    Calls Try.prog 67 #[.agg (mk 4 f)] w fun e w' => e = .returned (.tuple #[.agg (mk 4 (rsR f)), .int .i64 (rsS f), .bool (rwO f)]) ∧ Below w.heap.size w w' := by
  have z4 := zero4
  have K1 := (Blk.new w 4 f 24).alloc (.cells (mk 4 fun _ => 0) 24)
  have K2 := Blk.new (w.alloc (.cells (mk 4 f) 24)) 4 (fun _ => 0) 24
  have HB := Lib.hid (((Below.refl w.heap.size w).alloc (Nat.le_refl _) (.cells (mk 4 f) 24)).alloc (by simp) (.cells (mk 4 fun _ => 0) 24))
  simp only [World.size_alloc] at K2
  by_cases hV : VdRow f
  · obtain ⟨y1, y2, y3, _⟩ := rs_yes hV
    rw [y1, y2, y3]
    have HV := Lib.hid hV
    have HO := Lib.hid (rwO_yes hV)
    clear y1 y2 y3 hV
    go_enter Try.func67, Try.ntmps67
    go_wp2_with ((with_reducible show wpList _ _ _ (Oper.mk _ (Op.load 24 _) _ _ _ _ :: _) _ _); refine loadR (K1) rfl rfl rfl ?_)
    refine (l4Row_any _ _).mono ?_
    rw [HO.out]
    rintro e w1 ⟨rfl, hb⟩
    have K1 := K1.below hb K1.lt
    have K2 := K2.below hb K2.lt
    have HB : Hid (Below w.heap.size w w1) := HB.out.trans (hb.mono HB.out.size)
    clear hb
    go_wp2_with ((with_reducible show wpList _ _ _ (Oper.mk _ (Op.load 24 _) _ _ _ _ :: _) _ _); refine loadR (K1) rfl rfl rfl ?_)
    refine (l2Row_any f _ HV.out).mono ?_
    rintro e w2 ⟨rfl, hb⟩
    have K1 := K1.below hb K1.lt
    have K2 := K2.below hb K2.lt
    have HB : Hid (Below w.heap.size w w2) := HB.out.trans (hb.mono HB.out.size)
    clear hb
    have l2 := K2.lt
    go_wp2_with (first | ((with_reducible show wpList _ _ _ (Oper.mk _ (Op.load 24 _) _ _ _ _ :: _) _ _); refine loadR (Blk.new _ _ _ _) rfl rfl rfl ?_) | ((with_reducible show wpList _ _ _ (Oper.mk _ (Op.store 24 _ _) _ _ _ _ :: _) _ _); refine storeR (K2.alloc _) rfl rfl rfl rfl ?_))
    try simp only [Exit.inBlock, Exit.then]
    exact retcttR ((K2.alloc _).row 4 _) rfl rfl rfl ⟨rfl, below_setRow (HB.out.alloc HB.out.size _) (by omega) _⟩
  · obtain ⟨y1, y2, y3, _⟩ := rs_no hV
    rw [y1, y2, y3]
    have HO := Lib.hid (rwO_no hV)
    clear y1 y2 y3 hV
    go_enter Try.func67, Try.ntmps67
    go_wp2_with ((with_reducible show wpList _ _ _ (Oper.mk _ (Op.load 24 _) _ _ _ _ :: _) _ _); refine loadR (K1) rfl rfl rfl ?_)
    refine (l4Row_any _ _).mono ?_
    rw [HO.out]
    rintro e w1 ⟨rfl, hb⟩
    have K1 := K1.below hb K1.lt
    have K2 := K2.below hb K2.lt
    have HB : Hid (Below w.heap.size w w1) := HB.out.trans (hb.mono HB.out.size)
    clear hb
    go_wp2_with ((with_reducible show wpList _ _ _ (Oper.mk _ (Op.store 24 _ _) _ _ _ _ :: _) _ _); refine storeR (K2) rfl rfl rfl rfl ?_)
    try simp only [Exit.inBlock, Exit.then]
    exact retcttR (K2.row 4 _) rfl rfl rfl ⟨rfl, below_setRow HB.out (by omega) _⟩
set_option maxHeartbeats 400000 in
theorem implSlideRow_any (f : Nat → Int) (w : World) :
    Calls Try.prog 66 #[.agg (mk 4 f)] w fun e w' => e = .returned (.tuple #[.agg (mk 4 (rsR f)), .int .i64 (rsS f), .bool (rwO f)]) ∧ Below w.heap.size w w' := by
  have z4 := zero4
  have K1 := (Blk.new w 4 f 24).alloc (.cells (mk 4 fun _ => 0) 24)
  have K2 := Blk.new (w.alloc (.cells (mk 4 f) 24)) 4 (fun _ => 0) 24
  have HB := Lib.hid (((Below.refl w.heap.size w).alloc (Nat.le_refl _) (.cells (mk 4 f) 24)).alloc (by simp) (.cells (mk 4 fun _ => 0) 24))
  simp only [World.size_alloc] at K2
  by_cases hV : VdRow f
  · obtain ⟨y1, y2, y3, _⟩ := rs_yes hV
    rw [y1, y2, y3]
    have HV := Lib.hid hV
    have HO := Lib.hid (rwO_yes hV)
    clear y1 y2 y3 hV
    go_enter Try.func66, Try.ntmps66
    go_wp2_with ((with_reducible show wpList _ _ _ (Oper.mk _ (Op.load 24 _) _ _ _ _ :: _) _ _); refine loadR (K1) rfl rfl rfl ?_)
    refine (implIsRow_any _ _).mono ?_
    rw [HO.out]
    rintro e w1 ⟨rfl, hb⟩
    have K1 := K1.below hb K1.lt
    have K2 := K2.below hb K2.lt
    have HB : Hid (Below w.heap.size w w1) := HB.out.trans (hb.mono HB.out.size)
    clear hb
    go_wp2_with ((with_reducible show wpList _ _ _ (Oper.mk _ (Op.load 24 _) _ _ _ _ :: _) _ _); refine loadR (K1) rfl rfl rfl ?_)
    refine (slideLine_any f _ HV.out).mono ?_
    rintro e w2 ⟨rfl, hb⟩
    have K1 := K1.below hb K1.lt
    have K2 := K2.below hb K2.lt
    have HB : Hid (Below w.heap.size w w2) := HB.out.trans (hb.mono HB.out.size)
    clear hb
    have l2 := K2.lt
    go_wp2_with (first | ((with_reducible show wpList _ _ _ (Oper.mk _ (Op.load 24 _) _ _ _ _ :: _) _ _); refine loadR (Blk.new _ _ _ _) rfl rfl rfl ?_) | ((with_reducible show wpList _ _ _ (Oper.mk _ (Op.store 24 _ _) _ _ _ _ :: _) _ _); refine storeR (K2.alloc _) rfl rfl rfl rfl ?_))
    try simp only [Exit.inBlock, Exit.then]
    exact retcttR ((K2.alloc _).row 4 _) rfl rfl rfl ⟨rfl, below_setRow (HB.out.alloc HB.out.size _) (by omega) _⟩
  · obtain ⟨y1, y2, y3, _⟩ := rs_no hV
    rw [y1, y2, y3]
    have HO := Lib.hid (rwO_no hV)
    clear y1 y2 y3 hV
    go_enter Try.func66, Try.ntmps66
    go_wp2_with ((with_reducible show wpList _ _ _ (Oper.mk _ (Op.load 24 _) _ _ _ _ :: _) _ _); refine loadR (K1) rfl rfl rfl ?_)
    refine (implIsRow_any _ _).mono ?_
    rw [HO.out]
    rintro e w1 ⟨rfl, hb⟩
    have K1 := K1.below hb K1.lt
    have K2 := K2.below hb K2.lt
    have HB : Hid (Below w.heap.size w w1) := HB.out.trans (hb.mono HB.out.size)
    clear hb
    go_wp2_with ((with_reducible show wpList _ _ _ (Oper.mk _ (Op.store 24 _ _) _ _ _ _ :: _) _ _); refine storeR (K2) rfl rfl rfl rfl ?_)
    try simp only [Exit.inBlock, Exit.then]
    exact retcttR (K2.row 4 _) rfl rfl rfl ⟨rfl, below_setRow HB.out (by omega) _⟩
end Go.Proofs.Ytpiegllffkjneaa
