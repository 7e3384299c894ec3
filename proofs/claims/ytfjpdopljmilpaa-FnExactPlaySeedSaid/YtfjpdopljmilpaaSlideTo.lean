/-
  The contract of impl.slideTo: for every board whose numbers are those of cells and every direction, the board behind the slide, the score and the number of mergers.
-/
import Derived.Test.YtfjpdopljmilpaaBaseA
import Derived.Test.YtfjpdopljmilpaaSlideLine
namespace Go.Proofs.Ytfjpdopljmilpaa
open Go.RowKit Plain
attribute [local go_sem] store_new
theorem sizeVw : (Try.prog.info? 247).map (·.size) = some 2 := by kernel_rfl
/-- A block that is not of integers. -/
def Oth (w : World) (b : Nat) (cs : Array Value) (t : TypeId) : Prop := w.heap[b]? = some (.cells cs t (0, 0))
theorem Oth.lt {w : World} {b : Nat} {cs : Array Value} {t : TypeId} (h : Oth w b cs t) : b < w.heap.size := (Array.getElem?_eq_some_iff.1 h).1
theorem Oth.alloc {w : World} {b : Nat} {cs : Array Value} {t : TypeId} (h : Oth w b cs t) (o : Obj) : Oth (w.alloc o) b cs t := (heap_alloc_old w o h.lt).trans h
theorem Oth.setOther {w : World} {b : Nat} {cs : Array Value} {t : TypeId} (h : Oth w b cs t) (p : Addr) (v : Value) (hp : b ≠ p.block) : Oth (w.setCell p v) b cs t := (heap_setCell_other w p b v hp).trans h
theorem Oth.rowOther {w : World} {b : Nat} {cs : Array Value} {t : TypeId} (h : Oth w b cs t) (c : Nat) (ds : Array Value) (hc : b ≠ c) : Oth (w.setRow c ds) b cs t := (setRow_other w c b ds hc).trans h
theorem Oth.below {w w' : World} {b B : Nat} {cs : Array Value} {t : TypeId} (h : Oth w b cs t) (hb : Below B w w') (hB : b < B) : Oth w' b cs t := (hb.block b hB).trans h
theorem Oth.cell {w : World} {b : Nat} {cs : Array Value} {t : TypeId} (h : Oth w b cs t) (j : Nat) : w.cell? ⟨b, j, none⟩ = cs[j]? := cell_of_row w b j cs t _ h

theorem there_0 (f : Nat → Int) (w : World) :
    Calls Try.prog 291 #[.agg (mk 16 f)] w fun e w' => e = .returned (.agg (mk 16 (viewF f 0))) ∧ Below w.heap.size w w' :=
  (unturned_any f w).mono fun _ _ h => ⟨by rw [h.1, mk_congr (g := viewF f 0) fun j hj => by unfold viewF pos; simp <;> (congr 1; omega)], h.2⟩
theorem back_0 (f : Nat → Int) (w : World) :
    Calls Try.prog 291 #[.agg (mk 16 f)] w fun e w' => e = .returned (.agg (mk 16 (backF f 0))) ∧ Below w.heap.size w w' :=
  (unturned_any f w).mono fun _ _ h => ⟨by rw [h.1, mk_congr (g := backF f 0) fun j hj => by unfold backF lineOf placeOf; simp <;> (congr 1; omega)], h.2⟩
theorem there_1 (f : Nat → Int) (w : World) :
    Calls Try.prog 292 #[.agg (mk 16 f)] w fun e w' => e = .returned (.agg (mk 16 (viewF f 1))) ∧ Below w.heap.size w w' :=
  (transposed_any f w).mono fun _ _ h => ⟨by rw [h.1, mk_congr (g := viewF f 1) fun j hj => by unfold viewF pos; simp <;> (congr 1; omega)], h.2⟩
theorem back_1 (f : Nat → Int) (w : World) :
    Calls Try.prog 292 #[.agg (mk 16 f)] w fun e w' => e = .returned (.agg (mk 16 (backF f 1))) ∧ Below w.heap.size w w' :=
  (transposed_any f w).mono fun _ _ h => ⟨by rw [h.1, mk_congr (g := backF f 1) fun j hj => by unfold backF lineOf placeOf; simp <;> (congr 1; omega)], h.2⟩
theorem there_2 (f : Nat → Int) (w : World) :
    Calls Try.prog 293 #[.agg (mk 16 f)] w fun e w' => e = .returned (.agg (mk 16 (viewF f 2))) ∧ Below w.heap.size w w' :=
  (mirrored_any f w).mono fun _ _ h => ⟨by rw [h.1, mk_congr (g := viewF f 2) fun j hj => by unfold viewF pos; simp <;> (congr 1; omega)], h.2⟩
theorem back_2 (f : Nat → Int) (w : World) :
    Calls Try.prog 293 #[.agg (mk 16 f)] w fun e w' => e = .returned (.agg (mk 16 (backF f 2))) ∧ Below w.heap.size w w' :=
  (mirrored_any f w).mono fun _ _ h => ⟨by rw [h.1, mk_congr (g := backF f 2) fun j hj => by unfold backF lineOf placeOf; simp <;> (congr 1; omega)], h.2⟩
theorem there_3 (f : Nat → Int) (w : World) :
    Calls Try.prog 294 #[.agg (mk 16 f)] w fun e w' => e = .returned (.agg (mk 16 (viewF f 3))) ∧ Below w.heap.size w w' :=
  (turned_any f w).mono fun _ _ h => ⟨by rw [h.1, mk_congr (g := viewF f 3) fun j hj => by unfold viewF pos; simp <;> (congr 1; omega)], h.2⟩
theorem back_3 (f : Nat → Int) (w : World) :
    Calls Try.prog 295 #[.agg (mk 16 f)] w fun e w' => e = .returned (.agg (mk 16 (backF f 3))) ∧ Below w.heap.size w w' :=
  (turnedBack_any f w).mono fun _ _ h => ⟨by rw [h.1, mk_congr (g := backF f 3) fun j hj => by unfold backF lineOf placeOf; simp <;> (congr 1; omega)], h.2⟩
set_option maxHeartbeats 1000000 in
theorem slideTo_0 (f : Nat → Int) (w : World) (hf : Vd f) :
    Calls Try.prog 222 #[.agg (mk 16 f), .int .i64 0] w fun e w' => e = .returned (.agg (mk 18 (slideV f 0))) ∧ Below w.heap.size w w' := by
  have z16 := zero16
  have z18 := zero18
  have z4 := zero4
  have iG := idxG
  have iV := idxV0
  have sr := World.setRow_alloc_new
  have HV := Lib.hid hf
  clear hf
  have K1 := (Blk.new w 16 f 26).alloc (.cells (mk 18 fun _ => 0) 210)
  have K2 := Blk.new (w.alloc (.cells (mk 16 f) 26)) 18 (fun _ => 0) 210
  have HB := Lib.hid (((Below.refl w.heap.size w).alloc (Nat.le_refl _) (.cells (mk 16 f) 26)).alloc (by simp) (.cells (mk 18 fun _ => 0) 210))
  simp only [World.size_alloc] at K2
  go_enter Try.func222, Try.ntmps222
  go_wp2_with fail
  refine (views_any _).mono ?_
  rintro e w1 ⟨rfl, hb1⟩
  have k1 := K1.below hb1 (by simp; omega)
  have k2 := K2.below hb1 (by simp)
  have HB1 : Hid (Below w.heap.size w w1) := HB.out.trans (hb1.mono HB.out.size)
  clear hb1 HB K1 K2
  have l2 := k2.lt
  go_wp2_with (first | ((with_reducible show wpList _ _ _ (Oper.mk _ (Op.store 247 _ _) _ _ _ _ :: _) _ _); refine wpList_store_row rfl 247 _ _ rfl _ _ rfl rfl _ _ (heap_alloc_new _ _) sizeVw rfl (by simp [Value.oneCell']) ?_) | ((with_reducible show wpList _ _ _ (Oper.mk _ (Op.load 26 _) _ _ _ _ :: _) _ _); refine loadB (k1.alloc _) rfl rfl rfl ?_))
  refine (there_0 _ _).mono ?_
  rintro e w2 ⟨rfl, hb2⟩
  have k2 := (k2.alloc _).below hb2 (k2.alloc _).lt
  have kv : Oth w2 w1.heap.size #[.func (.func 291) #[] #[], .func (.func 291) #[] #[]] 247 := Oth.below (heap_alloc_new w1 _) hb2 (by simp)
  have HB2 : Hid (Below w.heap.size w w2) := (HB1.out.alloc HB1.out.size _).trans (hb2.mono (by have := HB1.out.size; simp; omega))
  have hs2 : w1.heap.size + 1 ≤ w2.heap.size := by have := hb2.size; simpa using this
  clear hb2 HB1 k1
  have KG := (Blk.new w2 16 (viewF f 0) 26).alloc (.cells (mk 18 fun _ => 0) 210)
  have KD := Blk.new (w2.alloc (.cells (mk 16 (viewF f 0)) 26)) 18 (fun _ => 0) 210
  have HB3 : Hid (Below w.heap.size w ((w2.alloc (.cells (mk 16 (viewF f 0)) 26)).alloc (.cells (mk 18 fun _ => 0) 210))) := (HB2.out.alloc HB2.out.size _).alloc (by have := HB2.out.size; simp; omega) _
  have KR := (k2.alloc (.cells (mk 16 (viewF f 0)) 26)).alloc (.cells (mk 18 fun _ => 0) 210)
  have KV := (kv.alloc (.cells (mk 16 (viewF f 0)) 26)).alloc (.cells (mk 18 fun _ => 0) 210)
  simp only [World.size_alloc] at KD
  clear k2 kv HB2
  go_wp2_with ((with_reducible show wpList _ _ _ (Oper.mk _ (Op.load 23 _) _ _ _ _ :: _) _ _); refine loadG (KG) rfl rfl rfl ?_)
  generalize (w2.alloc (.cells (mk 16 (viewF f 0)) 26)).alloc (.cells (mk 18 fun _ => 0) 210) = w3 at *
  go_loopg [23] 4 (fun g s23 wr => ∃ r : Nat, r + g = 4 ∧ s23 = .int .i64 r ∧ Blk wr w2.heap.size 16 (seenF f 0 r) 26 ∧ Blk wr (w2.heap.size + 1) 18 (doneF f 0 r) 210 ∧ Blk wr (w.heap.size + 1) 18 (fun _ => 0) 210 ∧ Oth wr w1.heap.size #[.func (.func 291) #[] #[], .func (.func 291) #[] #[]] 247 ∧ Hid (Below w.heap.size w wr))
  case atStart => exact ⟨0, by omega, rfl, KG.congr fun j _ => (seenF_zero f 0 j).symm, KD.congr fun j _ => (doneF_zero f 0 j).symm, KR, KV, HB3⟩
  case round =>
    obtain ⟨r, hrg, rfl, kg, kd, kr, kv, hb⟩ := hrel
    cases gk with
    | zero =>
      have hr : ¬ ((r : Int) < 4) := by omega
      obtain rfl : r = 4 := by omega
      clear hrg hr
      have hv1 : wr.cell? ⟨w1.heap.size, 1, none⟩ = some (.func (.func 291) #[] #[]) := kv.cell 1
      go_wp2_with ((with_reducible show wpList _ _ _ (Oper.mk _ (Op.load 26 _) _ _ _ _ :: _) _ _); refine loadB (kg) rfl rfl rfl ?_)
      refine (back_0 _ _).mono ?_
      rintro e w4 ⟨rfl, hb4⟩
      have kd := kd.below hb4 kd.lt
      have kr := kr.below hb4 kr.lt
      have HB4 : Hid (Below w.heap.size w w4) := hb.out.trans (hb4.mono hb.out.size)
      clear hb4 hb hv1 kv kg
      go_wp2_with (first | ((with_reducible show wpList _ _ _ (Oper.mk _ (Op.store 26 _ _) _ _ _ _ :: _) _ _); refine storePB (kd) (by omega) rfl rfl rfl rfl ?_) | ((with_reducible show wpList _ _ _ (Oper.mk _ (Op.load 210 _) _ _ _ _ :: _) _ _); refine loadS (kd.row 18 _) rfl rfl rfl ?_) | ((with_reducible show wpList _ _ _ (Oper.mk _ (Op.store 210 _ _) _ _ _ _ :: _) _ _); refine storeS (kr.rowOther _ _ (by omega)) rfl rfl rfl rfl ?_))
      try simp only [Exit.inBlock, Exit.then]
      refine retcS ((kr.rowOther _ _ (by omega)).row 18 _) rfl rfl rfl ⟨?_, below_setRow (below_setRow HB4.out (by omega) _) (by omega) _⟩
      rw [mk_congr (done_patch f 0 _ (seenF_back f 0))]
    | succ g =>
      have hr4 : (r : Int) < 4 := by omega
      have hr5 : r < 4 := by omega
      obtain ⟨s0, s1⟩ := slideS_bd HV.out 0 r (by omega)
      obtain ⟨m0, m1⟩ := slideM_bd HV.out 0 r (by omega)
      have HOK := Lib.hid (slid_ok (lineF_vd HV.out 0 hr5) 4 (Nat.le_refl _))
      have q0 := HOK.out.sc0
      have q1 := HOK.out.sc1
      have n0 := HOK.out.mg0
      have n1 := HOK.out.mg1
      clear HOK
      go_wp2_with ((with_reducible show wpList _ _ _ (Oper.mk _ (Op.load 22 _) _ _ _ _ :: _) _ _); refine loadR (Blk.new _ _ _ _) rfl rfl rfl ?_)
      refine (slideLine_any _ _ (viewF_vd HV.out 0 hr5)).mono ?_
      rintro e w4 ⟨rfl, hb4⟩
      rw [seen_slid f 0 r]
      have hs4 := hb4.size
      have lg := (kg.alloc (.cells (mk 4 fun c => viewF f 0 (r * 4 + c)) 22)).lt
      have kg := (kg.alloc _).below hb4 (kg.alloc _).lt
      have kd := (kd.alloc _).below hb4 (kd.alloc _).lt
      have kr := (kr.alloc _).below hb4 (kr.alloc _).lt
      have kv := (kv.alloc _).below hb4 (kv.alloc _).lt
      have HB4 : Hid (Below w.heap.size w w4) := (hb.out.alloc hb.out.size _).trans (hb4.mono (by have := hb.out.size; simp; omega))
      have KS : Hid (∀ j, patch (seenF f 0 r) (r * 4) 4 (slid (lineF f 0 r) 4).row j = seenF f 0 (r + 1) j) := seen_patch f 0 r
      have KT : Hid (∀ j, upd (upd (doneF f 0 r) 16 (slideS f 0 r + (slid (lineF f 0 r) 4).sc)) 17 (slideM f 0 r + (slid (lineF f 0 r) 4).mg) j = doneF f 0 (r + 1) j) := doneF_step f 0 r
      have e16 : doneF f 0 r 16 = slideS f 0 r := by simp [doneF]
      have e17 : doneF f 0 r 17 = slideM f 0 r := by simp [doneF]
      generalize slid (lineF f 0 r) 4 = S at *
      obtain ⟨row, n, sc, mg, op⟩ := S
      simp only [] at q0 q1 n0 n1 KS KT
      clear hb4 hb lg hs4
      have kd2 := (kd.alloc (.cells (mk 4 row) 22)).rowOther w2.heap.size (mk 16 (patch (seenF f 0 r) (r * 4) 4 row)) (by omega)
      have c16 := kd2.cell (i := 16) (by omega)
      have f16 := kd2.free 16
      have c17 := kd2.cell (i := 17) (by omega)
      have f17 := kd2.free 17
      rw [e16] at c16
      rw [e17] at c17
      clear e16 e17
      generalize slideS f 0 r = S0 at *
      generalize slideM f 0 r = M0 at *
      go_wp2_with (first | ((with_reducible show wpList _ _ _ (Oper.mk _ (Op.load 22 _) _ _ _ _ :: _) _ _); refine loadR (Blk.new _ _ _ _) rfl rfl rfl ?_) | ((with_reducible show wpList _ _ _ (Oper.mk _ (Op.store 22 _ _) _ _ _ _ :: _) _ _); refine storePR (kg.alloc _) (by omega) rfl rfl rfl rfl ?_))
      go_roundg g
      case rel =>
        refine ⟨r + 1, by omega, by go_num, ?_, ?_, ?_, ?_, ?_⟩
        · exact ((((kg.alloc _).row 16 _).setOther _ _ (by dsimp only; omega)).setOther _ _ (by dsimp only; omega)).congr fun j _ => KS.out j
        · exact ((kd2.set (by omega) _).set (by omega) _).congr fun j _ => KT.out j
        · exact (((kr.alloc _).rowOther _ _ (by omega)).setOther _ _ (by dsimp only; omega)).setOther _ _ (by dsimp only; omega)
        · exact (((kv.alloc _).rowOther _ _ (by omega)).setOther _ _ (by dsimp only; omega)).setOther _ _ (by dsimp only; omega)
        · exact ((below_setRow (HB4.out.alloc HB4.out.size _) (by omega) _).setCell (by dsimp only; omega) _).setCell (by dsimp only; omega) _
      case measure => omega
set_option maxHeartbeats 1000000 in
theorem slideTo_1 (f : Nat → Int) (w : World) (hf : Vd f) :
    Calls Try.prog 222 #[.agg (mk 16 f), .int .i64 1] w fun e w' => e = .returned (.agg (mk 18 (slideV f 1))) ∧ Below w.heap.size w w' := by
  have z16 := zero16
  have z18 := zero18
  have z4 := zero4
  have iG := idxG
  have iV := idxV1
  have sr := World.setRow_alloc_new
  have HV := Lib.hid hf
  clear hf
  have K1 := (Blk.new w 16 f 26).alloc (.cells (mk 18 fun _ => 0) 210)
  have K2 := Blk.new (w.alloc (.cells (mk 16 f) 26)) 18 (fun _ => 0) 210
  have HB := Lib.hid (((Below.refl w.heap.size w).alloc (Nat.le_refl _) (.cells (mk 16 f) 26)).alloc (by simp) (.cells (mk 18 fun _ => 0) 210))
  simp only [World.size_alloc] at K2
  go_enter Try.func222, Try.ntmps222
  go_wp2_with fail
  refine (views_any _).mono ?_
  rintro e w1 ⟨rfl, hb1⟩
  have k1 := K1.below hb1 (by simp; omega)
  have k2 := K2.below hb1 (by simp)
  have HB1 : Hid (Below w.heap.size w w1) := HB.out.trans (hb1.mono HB.out.size)
  clear hb1 HB K1 K2
  have l2 := k2.lt
  go_wp2_with (first | ((with_reducible show wpList _ _ _ (Oper.mk _ (Op.store 247 _ _) _ _ _ _ :: _) _ _); refine wpList_store_row rfl 247 _ _ rfl _ _ rfl rfl _ _ (heap_alloc_new _ _) sizeVw rfl (by simp [Value.oneCell']) ?_) | ((with_reducible show wpList _ _ _ (Oper.mk _ (Op.load 26 _) _ _ _ _ :: _) _ _); refine loadB (k1.alloc _) rfl rfl rfl ?_))
  refine (there_1 _ _).mono ?_
  rintro e w2 ⟨rfl, hb2⟩
  have k2 := (k2.alloc _).below hb2 (k2.alloc _).lt
  have kv : Oth w2 w1.heap.size #[.func (.func 292) #[] #[], .func (.func 292) #[] #[]] 247 := Oth.below (heap_alloc_new w1 _) hb2 (by simp)
  have HB2 : Hid (Below w.heap.size w w2) := (HB1.out.alloc HB1.out.size _).trans (hb2.mono (by have := HB1.out.size; simp; omega))
  have hs2 : w1.heap.size + 1 ≤ w2.heap.size := by have := hb2.size; simpa using this
  clear hb2 HB1 k1
  have KG := (Blk.new w2 16 (viewF f 1) 26).alloc (.cells (mk 18 fun _ => 0) 210)
  have KD := Blk.new (w2.alloc (.cells (mk 16 (viewF f 1)) 26)) 18 (fun _ => 0) 210
  have HB3 : Hid (Below w.heap.size w ((w2.alloc (.cells (mk 16 (viewF f 1)) 26)).alloc (.cells (mk 18 fun _ => 0) 210))) := (HB2.out.alloc HB2.out.size _).alloc (by have := HB2.out.size; simp; omega) _
  have KR := (k2.alloc (.cells (mk 16 (viewF f 1)) 26)).alloc (.cells (mk 18 fun _ => 0) 210)
  have KV := (kv.alloc (.cells (mk 16 (viewF f 1)) 26)).alloc (.cells (mk 18 fun _ => 0) 210)
  simp only [World.size_alloc] at KD
  clear k2 kv HB2
  go_wp2_with ((with_reducible show wpList _ _ _ (Oper.mk _ (Op.load 23 _) _ _ _ _ :: _) _ _); refine loadG (KG) rfl rfl rfl ?_)
  generalize (w2.alloc (.cells (mk 16 (viewF f 1)) 26)).alloc (.cells (mk 18 fun _ => 0) 210) = w3 at *
  go_loopg [23] 4 (fun g s23 wr => ∃ r : Nat, r + g = 4 ∧ s23 = .int .i64 r ∧ Blk wr w2.heap.size 16 (seenF f 1 r) 26 ∧ Blk wr (w2.heap.size + 1) 18 (doneF f 1 r) 210 ∧ Blk wr (w.heap.size + 1) 18 (fun _ => 0) 210 ∧ Oth wr w1.heap.size #[.func (.func 292) #[] #[], .func (.func 292) #[] #[]] 247 ∧ Hid (Below w.heap.size w wr))
  case atStart => exact ⟨0, by omega, rfl, KG.congr fun j _ => (seenF_zero f 1 j).symm, KD.congr fun j _ => (doneF_zero f 1 j).symm, KR, KV, HB3⟩
  case round =>
    obtain ⟨r, hrg, rfl, kg, kd, kr, kv, hb⟩ := hrel
    cases gk with
    | zero =>
      have hr : ¬ ((r : Int) < 4) := by omega
      obtain rfl : r = 4 := by omega
      clear hrg hr
      have hv1 : wr.cell? ⟨w1.heap.size, 1, none⟩ = some (.func (.func 292) #[] #[]) := kv.cell 1
      go_wp2_with ((with_reducible show wpList _ _ _ (Oper.mk _ (Op.load 26 _) _ _ _ _ :: _) _ _); refine loadB (kg) rfl rfl rfl ?_)
      refine (back_1 _ _).mono ?_
      rintro e w4 ⟨rfl, hb4⟩
      have kd := kd.below hb4 kd.lt
      have kr := kr.below hb4 kr.lt
      have HB4 : Hid (Below w.heap.size w w4) := hb.out.trans (hb4.mono hb.out.size)
      clear hb4 hb hv1 kv kg
      go_wp2_with (first | ((with_reducible show wpList _ _ _ (Oper.mk _ (Op.store 26 _ _) _ _ _ _ :: _) _ _); refine storePB (kd) (by omega) rfl rfl rfl rfl ?_) | ((with_reducible show wpList _ _ _ (Oper.mk _ (Op.load 210 _) _ _ _ _ :: _) _ _); refine loadS (kd.row 18 _) rfl rfl rfl ?_) | ((with_reducible show wpList _ _ _ (Oper.mk _ (Op.store 210 _ _) _ _ _ _ :: _) _ _); refine storeS (kr.rowOther _ _ (by omega)) rfl rfl rfl rfl ?_))
      try simp only [Exit.inBlock, Exit.then]
      refine retcS ((kr.rowOther _ _ (by omega)).row 18 _) rfl rfl rfl ⟨?_, below_setRow (below_setRow HB4.out (by omega) _) (by omega) _⟩
      rw [mk_congr (done_patch f 1 _ (seenF_back f 1))]
    | succ g =>
      have hr4 : (r : Int) < 4 := by omega
      have hr5 : r < 4 := by omega
      obtain ⟨s0, s1⟩ := slideS_bd HV.out 1 r (by omega)
      obtain ⟨m0, m1⟩ := slideM_bd HV.out 1 r (by omega)
      have HOK := Lib.hid (slid_ok (lineF_vd HV.out 1 hr5) 4 (Nat.le_refl _))
      have q0 := HOK.out.sc0
      have q1 := HOK.out.sc1
      have n0 := HOK.out.mg0
      have n1 := HOK.out.mg1
      clear HOK
      go_wp2_with ((with_reducible show wpList _ _ _ (Oper.mk _ (Op.load 22 _) _ _ _ _ :: _) _ _); refine loadR (Blk.new _ _ _ _) rfl rfl rfl ?_)
      refine (slideLine_any _ _ (viewF_vd HV.out 1 hr5)).mono ?_
      rintro e w4 ⟨rfl, hb4⟩
      rw [seen_slid f 1 r]
      have hs4 := hb4.size
      have lg := (kg.alloc (.cells (mk 4 fun c => viewF f 1 (r * 4 + c)) 22)).lt
      have kg := (kg.alloc _).below hb4 (kg.alloc _).lt
      have kd := (kd.alloc _).below hb4 (kd.alloc _).lt
      have kr := (kr.alloc _).below hb4 (kr.alloc _).lt
      have kv := (kv.alloc _).below hb4 (kv.alloc _).lt
      have HB4 : Hid (Below w.heap.size w w4) := (hb.out.alloc hb.out.size _).trans (hb4.mono (by have := hb.out.size; simp; omega))
      have KS : Hid (∀ j, patch (seenF f 1 r) (r * 4) 4 (slid (lineF f 1 r) 4).row j = seenF f 1 (r + 1) j) := seen_patch f 1 r
      have KT : Hid (∀ j, upd (upd (doneF f 1 r) 16 (slideS f 1 r + (slid (lineF f 1 r) 4).sc)) 17 (slideM f 1 r + (slid (lineF f 1 r) 4).mg) j = doneF f 1 (r + 1) j) := doneF_step f 1 r
      have e16 : doneF f 1 r 16 = slideS f 1 r := by simp [doneF]
      have e17 : doneF f 1 r 17 = slideM f 1 r := by simp [doneF]
      generalize slid (lineF f 1 r) 4 = S at *
      obtain ⟨row, n, sc, mg, op⟩ := S
      simp only [] at q0 q1 n0 n1 KS KT
      clear hb4 hb lg hs4
      have kd2 := (kd.alloc (.cells (mk 4 row) 22)).rowOther w2.heap.size (mk 16 (patch (seenF f 1 r) (r * 4) 4 row)) (by omega)
      have c16 := kd2.cell (i := 16) (by omega)
      have f16 := kd2.free 16
      have c17 := kd2.cell (i := 17) (by omega)
      have f17 := kd2.free 17
      rw [e16] at c16
      rw [e17] at c17
      clear e16 e17
      generalize slideS f 1 r = S0 at *
      generalize slideM f 1 r = M0 at *
      go_wp2_with (first | ((with_reducible show wpList _ _ _ (Oper.mk _ (Op.load 22 _) _ _ _ _ :: _) _ _); refine loadR (Blk.new _ _ _ _) rfl rfl rfl ?_) | ((with_reducible show wpList _ _ _ (Oper.mk _ (Op.store 22 _ _) _ _ _ _ :: _) _ _); refine storePR (kg.alloc _) (by omega) rfl rfl rfl rfl ?_))
      go_roundg g
      case rel =>
        refine ⟨r + 1, by omega, by go_num, ?_, ?_, ?_, ?_, ?_⟩
        · exact ((((kg.alloc _).row 16 _).setOther _ _ (by dsimp only; omega)).setOther _ _ (by dsimp only; omega)).congr fun j _ => KS.out j
        · exact ((kd2.set (by omega) _).set (by omega) _).congr fun j _ => KT.out j
        · exact (((kr.alloc _).rowOther _ _ (by omega)).setOther _ _ (by dsimp only; omega)).setOther _ _ (by dsimp only; omega)
        · exact (((kv.alloc _).rowOther _ _ (by omega)).setOther _ _ (by dsimp only; omega)).setOther _ _ (by dsimp only; omega)
        · exact ((below_setRow (HB4.out.alloc HB4.out.size _) (by omega) _).setCell (by dsimp only; omega) _).setCell (by dsimp only; omega) _
      case measure => omega
set_option maxHeartbeats 1000000 in
theorem slideTo_2 (f : Nat → Int) (w : World) (hf : Vd f) :
    Calls Try.prog 222 #[.agg (mk 16 f), .int .i64 2] w fun e w' => e = .returned (.agg (mk 18 (slideV f 2))) ∧ Below w.heap.size w w' := by
  have z16 := zero16
  have z18 := zero18
  have z4 := zero4
  have iG := idxG
  have iV := idxV2
  have sr := World.setRow_alloc_new
  have HV := Lib.hid hf
  clear hf
  have K1 := (Blk.new w 16 f 26).alloc (.cells (mk 18 fun _ => 0) 210)
  have K2 := Blk.new (w.alloc (.cells (mk 16 f) 26)) 18 (fun _ => 0) 210
  have HB := Lib.hid (((Below.refl w.heap.size w).alloc (Nat.le_refl _) (.cells (mk 16 f) 26)).alloc (by simp) (.cells (mk 18 fun _ => 0) 210))
  simp only [World.size_alloc] at K2
  go_enter Try.func222, Try.ntmps222
  go_wp2_with fail
  refine (views_any _).mono ?_
  rintro e w1 ⟨rfl, hb1⟩
  have k1 := K1.below hb1 (by simp; omega)
  have k2 := K2.below hb1 (by simp)
  have HB1 : Hid (Below w.heap.size w w1) := HB.out.trans (hb1.mono HB.out.size)
  clear hb1 HB K1 K2
  have l2 := k2.lt
  go_wp2_with (first | ((with_reducible show wpList _ _ _ (Oper.mk _ (Op.store 247 _ _) _ _ _ _ :: _) _ _); refine wpList_store_row rfl 247 _ _ rfl _ _ rfl rfl _ _ (heap_alloc_new _ _) sizeVw rfl (by simp [Value.oneCell']) ?_) | ((with_reducible show wpList _ _ _ (Oper.mk _ (Op.load 26 _) _ _ _ _ :: _) _ _); refine loadB (k1.alloc _) rfl rfl rfl ?_))
  refine (there_2 _ _).mono ?_
  rintro e w2 ⟨rfl, hb2⟩
  have k2 := (k2.alloc _).below hb2 (k2.alloc _).lt
  have kv : Oth w2 w1.heap.size #[.func (.func 293) #[] #[], .func (.func 293) #[] #[]] 247 := Oth.below (heap_alloc_new w1 _) hb2 (by simp)
  have HB2 : Hid (Below w.heap.size w w2) := (HB1.out.alloc HB1.out.size _).trans (hb2.mono (by have := HB1.out.size; simp; omega))
  have hs2 : w1.heap.size + 1 ≤ w2.heap.size := by have := hb2.size; simpa using this
  clear hb2 HB1 k1
  have KG := (Blk.new w2 16 (viewF f 2) 26).alloc (.cells (mk 18 fun _ => 0) 210)
  have KD := Blk.new (w2.alloc (.cells (mk 16 (viewF f 2)) 26)) 18 (fun _ => 0) 210
  have HB3 : Hid (Below w.heap.size w ((w2.alloc (.cells (mk 16 (viewF f 2)) 26)).alloc (.cells (mk 18 fun _ => 0) 210))) := (HB2.out.alloc HB2.out.size _).alloc (by have := HB2.out.size; simp; omega) _
  have KR := (k2.alloc (.cells (mk 16 (viewF f 2)) 26)).alloc (.cells (mk 18 fun _ => 0) 210)
  have KV := (kv.alloc (.cells (mk 16 (viewF f 2)) 26)).alloc (.cells (mk 18 fun _ => 0) 210)
  simp only [World.size_alloc] at KD
  clear k2 kv HB2
  go_wp2_with ((with_reducible show wpList _ _ _ (Oper.mk _ (Op.load 23 _) _ _ _ _ :: _) _ _); refine loadG (KG) rfl rfl rfl ?_)
  generalize (w2.alloc (.cells (mk 16 (viewF f 2)) 26)).alloc (.cells (mk 18 fun _ => 0) 210) = w3 at *
  go_loopg [23] 4 (fun g s23 wr => ∃ r : Nat, r + g = 4 ∧ s23 = .int .i64 r ∧ Blk wr w2.heap.size 16 (seenF f 2 r) 26 ∧ Blk wr (w2.heap.size + 1) 18 (doneF f 2 r) 210 ∧ Blk wr (w.heap.size + 1) 18 (fun _ => 0) 210 ∧ Oth wr w1.heap.size #[.func (.func 293) #[] #[], .func (.func 293) #[] #[]] 247 ∧ Hid (Below w.heap.size w wr))
  case atStart => exact ⟨0, by omega, rfl, KG.congr fun j _ => (seenF_zero f 2 j).symm, KD.congr fun j _ => (doneF_zero f 2 j).symm, KR, KV, HB3⟩
  case round =>
    obtain ⟨r, hrg, rfl, kg, kd, kr, kv, hb⟩ := hrel
    cases gk with
    | zero =>
      have hr : ¬ ((r : Int) < 4) := by omega
      obtain rfl : r = 4 := by omega
      clear hrg hr
      have hv1 : wr.cell? ⟨w1.heap.size, 1, none⟩ = some (.func (.func 293) #[] #[]) := kv.cell 1
      go_wp2_with ((with_reducible show wpList _ _ _ (Oper.mk _ (Op.load 26 _) _ _ _ _ :: _) _ _); refine loadB (kg) rfl rfl rfl ?_)
      refine (back_2 _ _).mono ?_
      rintro e w4 ⟨rfl, hb4⟩
      have kd := kd.below hb4 kd.lt
      have kr := kr.below hb4 kr.lt
      have HB4 : Hid (Below w.heap.size w w4) := hb.out.trans (hb4.mono hb.out.size)
      clear hb4 hb hv1 kv kg
      go_wp2_with (first | ((with_reducible show wpList _ _ _ (Oper.mk _ (Op.store 26 _ _) _ _ _ _ :: _) _ _); refine storePB (kd) (by omega) rfl rfl rfl rfl ?_) | ((with_reducible show wpList _ _ _ (Oper.mk _ (Op.load 210 _) _ _ _ _ :: _) _ _); refine loadS (kd.row 18 _) rfl rfl rfl ?_) | ((with_reducible show wpList _ _ _ (Oper.mk _ (Op.store 210 _ _) _ _ _ _ :: _) _ _); refine storeS (kr.rowOther _ _ (by omega)) rfl rfl rfl rfl ?_))
      try simp only [Exit.inBlock, Exit.then]
      refine retcS ((kr.rowOther _ _ (by omega)).row 18 _) rfl rfl rfl ⟨?_, below_setRow (below_setRow HB4.out (by omega) _) (by omega) _⟩
      rw [mk_congr (done_patch f 2 _ (seenF_back f 2))]
    | succ g =>
      have hr4 : (r : Int) < 4 := by omega
      have hr5 : r < 4 := by omega
      obtain ⟨s0, s1⟩ := slideS_bd HV.out 2 r (by omega)
      obtain ⟨m0, m1⟩ := slideM_bd HV.out 2 r (by omega)
      have HOK := Lib.hid (slid_ok (lineF_vd HV.out 2 hr5) 4 (Nat.le_refl _))
      have q0 := HOK.out.sc0
      have q1 := HOK.out.sc1
      have n0 := HOK.out.mg0
      have n1 := HOK.out.mg1
      clear HOK
      go_wp2_with ((with_reducible show wpList _ _ _ (Oper.mk _ (Op.load 22 _) _ _ _ _ :: _) _ _); refine loadR (Blk.new _ _ _ _) rfl rfl rfl ?_)
      refine (slideLine_any _ _ (viewF_vd HV.out 2 hr5)).mono ?_
      rintro e w4 ⟨rfl, hb4⟩
      rw [seen_slid f 2 r]
      have hs4 := hb4.size
      have lg := (kg.alloc (.cells (mk 4 fun c => viewF f 2 (r * 4 + c)) 22)).lt
      have kg := (kg.alloc _).below hb4 (kg.alloc _).lt
      have kd := (kd.alloc _).below hb4 (kd.alloc _).lt
      have kr := (kr.alloc _).below hb4 (kr.alloc _).lt
      have kv := (kv.alloc _).below hb4 (kv.alloc _).lt
      have HB4 : Hid (Below w.heap.size w w4) := (hb.out.alloc hb.out.size _).trans (hb4.mono (by have := hb.out.size; simp; omega))
      have KS : Hid (∀ j, patch (seenF f 2 r) (r * 4) 4 (slid (lineF f 2 r) 4).row j = seenF f 2 (r + 1) j) := seen_patch f 2 r
      have KT : Hid (∀ j, upd (upd (doneF f 2 r) 16 (slideS f 2 r + (slid (lineF f 2 r) 4).sc)) 17 (slideM f 2 r + (slid (lineF f 2 r) 4).mg) j = doneF f 2 (r + 1) j) := doneF_step f 2 r
      have e16 : doneF f 2 r 16 = slideS f 2 r := by simp [doneF]
      have e17 : doneF f 2 r 17 = slideM f 2 r := by simp [doneF]
      generalize slid (lineF f 2 r) 4 = S at *
      obtain ⟨row, n, sc, mg, op⟩ := S
      simp only [] at q0 q1 n0 n1 KS KT
      clear hb4 hb lg hs4
      have kd2 := (kd.alloc (.cells (mk 4 row) 22)).rowOther w2.heap.size (mk 16 (patch (seenF f 2 r) (r * 4) 4 row)) (by omega)
      have c16 := kd2.cell (i := 16) (by omega)
      have f16 := kd2.free 16
      have c17 := kd2.cell (i := 17) (by omega)
      have f17 := kd2.free 17
      rw [e16] at c16
      rw [e17] at c17
      clear e16 e17
      generalize slideS f 2 r = S0 at *
      generalize slideM f 2 r = M0 at *
      go_wp2_with (first | ((with_reducible show wpList _ _ _ (Oper.mk _ (Op.load 22 _) _ _ _ _ :: _) _ _); refine loadR (Blk.new _ _ _ _) rfl rfl rfl ?_) | ((with_reducible show wpList _ _ _ (Oper.mk _ (Op.store 22 _ _) _ _ _ _ :: _) _ _); refine storePR (kg.alloc _) (by omega) rfl rfl rfl rfl ?_))
      go_roundg g
      case rel =>
        refine ⟨r + 1, by omega, by go_num, ?_, ?_, ?_, ?_, ?_⟩
        · exact ((((kg.alloc _).row 16 _).setOther _ _ (by dsimp only; omega)).setOther _ _ (by dsimp only; omega)).congr fun j _ => KS.out j
        · exact ((kd2.set (by omega) _).set (by omega) _).congr fun j _ => KT.out j
        · exact (((kr.alloc _).rowOther _ _ (by omega)).setOther _ _ (by dsimp only; omega)).setOther _ _ (by dsimp only; omega)
        · exact (((kv.alloc _).rowOther _ _ (by omega)).setOther _ _ (by dsimp only; omega)).setOther _ _ (by dsimp only; omega)
        · exact ((below_setRow (HB4.out.alloc HB4.out.size _) (by omega) _).setCell (by dsimp only; omega) _).setCell (by dsimp only; omega) _
      case measure => omega
set_option maxHeartbeats 1000000 in
theorem slideTo_3 (f : Nat → Int) (w : World) (hf : Vd f) :
    Calls Try.prog 222 #[.agg (mk 16 f), .int .i64 3] w fun e w' => e = .returned (.agg (mk 18 (slideV f 3))) ∧ Below w.heap.size w w' := by
  have z16 := zero16
  have z18 := zero18
  have z4 := zero4
  have iG := idxG
  have iV := idxV3
  have sr := World.setRow_alloc_new
  have HV := Lib.hid hf
  clear hf
  have K1 := (Blk.new w 16 f 26).alloc (.cells (mk 18 fun _ => 0) 210)
  have K2 := Blk.new (w.alloc (.cells (mk 16 f) 26)) 18 (fun _ => 0) 210
  have HB := Lib.hid (((Below.refl w.heap.size w).alloc (Nat.le_refl _) (.cells (mk 16 f) 26)).alloc (by simp) (.cells (mk 18 fun _ => 0) 210))
  simp only [World.size_alloc] at K2
  go_enter Try.func222, Try.ntmps222
  go_wp2_with fail
  refine (views_any _).mono ?_
  rintro e w1 ⟨rfl, hb1⟩
  have k1 := K1.below hb1 (by simp; omega)
  have k2 := K2.below hb1 (by simp)
  have HB1 : Hid (Below w.heap.size w w1) := HB.out.trans (hb1.mono HB.out.size)
  clear hb1 HB K1 K2
  have l2 := k2.lt
  go_wp2_with (first | ((with_reducible show wpList _ _ _ (Oper.mk _ (Op.store 247 _ _) _ _ _ _ :: _) _ _); refine wpList_store_row rfl 247 _ _ rfl _ _ rfl rfl _ _ (heap_alloc_new _ _) sizeVw rfl (by simp [Value.oneCell']) ?_) | ((with_reducible show wpList _ _ _ (Oper.mk _ (Op.load 26 _) _ _ _ _ :: _) _ _); refine loadB (k1.alloc _) rfl rfl rfl ?_))
  refine (there_3 _ _).mono ?_
  rintro e w2 ⟨rfl, hb2⟩
  have k2 := (k2.alloc _).below hb2 (k2.alloc _).lt
  have kv : Oth w2 w1.heap.size #[.func (.func 294) #[] #[], .func (.func 295) #[] #[]] 247 := Oth.below (heap_alloc_new w1 _) hb2 (by simp)
  have HB2 : Hid (Below w.heap.size w w2) := (HB1.out.alloc HB1.out.size _).trans (hb2.mono (by have := HB1.out.size; simp; omega))
  have hs2 : w1.heap.size + 1 ≤ w2.heap.size := by have := hb2.size; simpa using this
  clear hb2 HB1 k1
  have KG := (Blk.new w2 16 (viewF f 3) 26).alloc (.cells (mk 18 fun _ => 0) 210)
  have KD := Blk.new (w2.alloc (.cells (mk 16 (viewF f 3)) 26)) 18 (fun _ => 0) 210
  have HB3 : Hid (Below w.heap.size w ((w2.alloc (.cells (mk 16 (viewF f 3)) 26)).alloc (.cells (mk 18 fun _ => 0) 210))) := (HB2.out.alloc HB2.out.size _).alloc (by have := HB2.out.size; simp; omega) _
  have KR := (k2.alloc (.cells (mk 16 (viewF f 3)) 26)).alloc (.cells (mk 18 fun _ => 0) 210)
  have KV := (kv.alloc (.cells (mk 16 (viewF f 3)) 26)).alloc (.cells (mk 18 fun _ => 0) 210)
  simp only [World.size_alloc] at KD
  clear k2 kv HB2
  go_wp2_with ((with_reducible show wpList _ _ _ (Oper.mk _ (Op.load 23 _) _ _ _ _ :: _) _ _); refine loadG (KG) rfl rfl rfl ?_)
  generalize (w2.alloc (.cells (mk 16 (viewF f 3)) 26)).alloc (.cells (mk 18 fun _ => 0) 210) = w3 at *
  go_loopg [23] 4 (fun g s23 wr => ∃ r : Nat, r + g = 4 ∧ s23 = .int .i64 r ∧ Blk wr w2.heap.size 16 (seenF f 3 r) 26 ∧ Blk wr (w2.heap.size + 1) 18 (doneF f 3 r) 210 ∧ Blk wr (w.heap.size + 1) 18 (fun _ => 0) 210 ∧ Oth wr w1.heap.size #[.func (.func 294) #[] #[], .func (.func 295) #[] #[]] 247 ∧ Hid (Below w.heap.size w wr))
  case atStart => exact ⟨0, by omega, rfl, KG.congr fun j _ => (seenF_zero f 3 j).symm, KD.congr fun j _ => (doneF_zero f 3 j).symm, KR, KV, HB3⟩
  case round =>
    obtain ⟨r, hrg, rfl, kg, kd, kr, kv, hb⟩ := hrel
    cases gk with
    | zero =>
      have hr : ¬ ((r : Int) < 4) := by omega
      obtain rfl : r = 4 := by omega
      clear hrg hr
      have hv1 : wr.cell? ⟨w1.heap.size, 1, none⟩ = some (.func (.func 295) #[] #[]) := kv.cell 1
      go_wp2_with ((with_reducible show wpList _ _ _ (Oper.mk _ (Op.load 26 _) _ _ _ _ :: _) _ _); refine loadB (kg) rfl rfl rfl ?_)
      refine (back_3 _ _).mono ?_
      rintro e w4 ⟨rfl, hb4⟩
      have kd := kd.below hb4 kd.lt
      have kr := kr.below hb4 kr.lt
      have HB4 : Hid (Below w.heap.size w w4) := hb.out.trans (hb4.mono hb.out.size)
      clear hb4 hb hv1 kv kg
      go_wp2_with (first | ((with_reducible show wpList _ _ _ (Oper.mk _ (Op.store 26 _ _) _ _ _ _ :: _) _ _); refine storePB (kd) (by omega) rfl rfl rfl rfl ?_) | ((with_reducible show wpList _ _ _ (Oper.mk _ (Op.load 210 _) _ _ _ _ :: _) _ _); refine loadS (kd.row 18 _) rfl rfl rfl ?_) | ((with_reducible show wpList _ _ _ (Oper.mk _ (Op.store 210 _ _) _ _ _ _ :: _) _ _); refine storeS (kr.rowOther _ _ (by omega)) rfl rfl rfl rfl ?_))
      try simp only [Exit.inBlock, Exit.then]
      refine retcS ((kr.rowOther _ _ (by omega)).row 18 _) rfl rfl rfl ⟨?_, below_setRow (below_setRow HB4.out (by omega) _) (by omega) _⟩
      rw [mk_congr (done_patch f 3 _ (seenF_back f 3))]
    | succ g =>
      have hr4 : (r : Int) < 4 := by omega
      have hr5 : r < 4 := by omega
      obtain ⟨s0, s1⟩ := slideS_bd HV.out 3 r (by omega)
      obtain ⟨m0, m1⟩ := slideM_bd HV.out 3 r (by omega)
      have HOK := Lib.hid (slid_ok (lineF_vd HV.out 3 hr5) 4 (Nat.le_refl _))
      have q0 := HOK.out.sc0
      have q1 := HOK.out.sc1
      have n0 := HOK.out.mg0
      have n1 := HOK.out.mg1
      clear HOK
      go_wp2_with ((with_reducible show wpList _ _ _ (Oper.mk _ (Op.load 22 _) _ _ _ _ :: _) _ _); refine loadR (Blk.new _ _ _ _) rfl rfl rfl ?_)
      refine (slideLine_any _ _ (viewF_vd HV.out 3 hr5)).mono ?_
      rintro e w4 ⟨rfl, hb4⟩
      rw [seen_slid f 3 r]
      have hs4 := hb4.size
      have lg := (kg.alloc (.cells (mk 4 fun c => viewF f 3 (r * 4 + c)) 22)).lt
      have kg := (kg.alloc _).below hb4 (kg.alloc _).lt
      have kd := (kd.alloc _).below hb4 (kd.alloc _).lt
      have kr := (kr.alloc _).below hb4 (kr.alloc _).lt
      have kv := (kv.alloc _).below hb4 (kv.alloc _).lt
      have HB4 : Hid (Below w.heap.size w w4) := (hb.out.alloc hb.out.size _).trans (hb4.mono (by have := hb.out.size; simp; omega))
      have KS : Hid (∀ j, patch (seenF f 3 r) (r * 4) 4 (slid (lineF f 3 r) 4).row j = seenF f 3 (r + 1) j) := seen_patch f 3 r
      have KT : Hid (∀ j, upd (upd (doneF f 3 r) 16 (slideS f 3 r + (slid (lineF f 3 r) 4).sc)) 17 (slideM f 3 r + (slid (lineF f 3 r) 4).mg) j = doneF f 3 (r + 1) j) := doneF_step f 3 r
      have e16 : doneF f 3 r 16 = slideS f 3 r := by simp [doneF]
      have e17 : doneF f 3 r 17 = slideM f 3 r := by simp [doneF]
      generalize slid (lineF f 3 r) 4 = S at *
      obtain ⟨row, n, sc, mg, op⟩ := S
      simp only [] at q0 q1 n0 n1 KS KT
      clear hb4 hb lg hs4
      have kd2 := (kd.alloc (.cells (mk 4 row) 22)).rowOther w2.heap.size (mk 16 (patch (seenF f 3 r) (r * 4) 4 row)) (by omega)
      have c16 := kd2.cell (i := 16) (by omega)
      have f16 := kd2.free 16
      have c17 := kd2.cell (i := 17) (by omega)
      have f17 := kd2.free 17
      rw [e16] at c16
      rw [e17] at c17
      clear e16 e17
      generalize slideS f 3 r = S0 at *
      generalize slideM f 3 r = M0 at *
      go_wp2_with (first | ((with_reducible show wpList _ _ _ (Oper.mk _ (Op.load 22 _) _ _ _ _ :: _) _ _); refine loadR (Blk.new _ _ _ _) rfl rfl rfl ?_) | ((with_reducible show wpList _ _ _ (Oper.mk _ (Op.store 22 _ _) _ _ _ _ :: _) _ _); refine storePR (kg.alloc _) (by omega) rfl rfl rfl rfl ?_))
      go_roundg g
      case rel =>
        refine ⟨r + 1, by omega, by go_num, ?_, ?_, ?_, ?_, ?_⟩
        · exact ((((kg.alloc _).row 16 _).setOther _ _ (by dsimp only; omega)).setOther _ _ (by dsimp only; omega)).congr fun j _ => KS.out j
        · exact ((kd2.set (by omega) _).set (by omega) _).congr fun j _ => KT.out j
        · exact (((kr.alloc _).rowOther _ _ (by omega)).setOther _ _ (by dsimp only; omega)).setOther _ _ (by dsimp only; omega)
        · exact (((kv.alloc _).rowOther _ _ (by omega)).setOther _ _ (by dsimp only; omega)).setOther _ _ (by dsimp only; omega)
        · exact ((below_setRow (HB4.out.alloc HB4.out.size _) (by omega) _).setCell (by dsimp only; omega) _).setCell (by dsimp only; omega) _
      case measure => omega
theorem slideTo_any (f : Nat → Int) (d : Int) (w : World) (hf : Vd f) (h0 : 0 ≤ d) (h1 : d ≤ 3) :
    Calls Try.prog 222 #[.agg (mk 16 f), .int .i64 d] w fun e w' => e = .returned (.agg (mk 18 (slideV f d.toNat))) ∧ Below w.heap.size w w' := by
  rcases (by omega : d = 0 ∨ d = 1 ∨ d = 2 ∨ d = 3) with rfl | rfl | rfl | rfl
  · exact slideTo_0 f w hf
  · exact slideTo_1 f w hf
  · exact slideTo_2 f w hf
  · exact slideTo_3 f w hf
end Go.Proofs.Ytfjpdopljmilpaa
