/-
  The contracts of TurnRow, in the reference and in the program, for every row, and of slices.Reverse of four integers.
-/
import Derived.Test.YtfikbbhlenopfaaRowsA
import Derived.Test.YtfikbbhlenopfaaEmpty
import Derived.Sort.WalkB12
import Derived.Shelf.RegionOpenPlain
namespace Go.Proofs.Ytfikbbhlenopfaa
open Go.RowKit Plain
attribute [local go_sem] store_new

/-- A row of which i places from each end have been turned. -/
def revTo (f : Nat → Int) (i : Nat) : Nat → Int := fun j => if j < i ∨ 3 - j < i then f (3 - j) else f j
theorem revTo_zero (f : Nat → Int) (j : Nat) : revTo f 0 j = f j := by simp [revTo]
theorem revTo_two (f : Nat → Int) {j : Nat} (hj : j < 4) : revTo f 2 j = rev f j := by
  unfold revTo rev
  rw [if_pos (by omega)]
theorem revTo_step (f : Nat → Int) {i j : Nat} (hi : i < 2) (hj : j < 4) : upd (upd (revTo f i) i (f (3 - i))) (3 - i) (f i) j = revTo f (i + 1) j := by
  unfold upd revTo
  rcases (by omega : i = 0 ∨ i = 1) with rfl | rfl <;> rcases (by omega : j = 0 ∨ j = 1 ∨ j = 2 ∨ j = 3) with rfl | rfl | rfl | rfl <;> simp
theorem gset {b : Nat} {a w : World} (h : a.grownBy w (some b)) (j : Nat) (v : Value) : a.grownBy (w.setCell ⟨b, j, none⟩ v) (some b) :=
  ⟨h.os, h.tape, h.output, by simpa [World.setCell] using h.size, fun k hk hne => (Below.heap_setCell _ _ _ _ (fun e => hne (congrArg some e))).trans (h.block k hk hne)⟩
theorem gdrew {b : Nat} {a w : World} (h : a.grownBy w (some b)) (n : Nat) : a.grownBy (w.drewN n) (some b) := ⟨h.os, h.tape, h.output, h.size, h.block⟩
set_option maxHeartbeats 1000000 in
theorem reverse4_any (f : Nat → Int) (b : Nat) (t : TypeId) (w : World) (hb : Blk w b 4 f t) :
    Calls Try.prog 204 #[.slice (some ⟨b, 0, none⟩) 4 4] w fun e w' => e = .returned (.tuple #[]) ∧ Blk w' b 4 (rev f) t ∧ w.grownBy w' (some b) := by
  have HK := Lib.hid hb
  clear hb
  go_enter Try.func204, Try.ntmps204
  go_wp2
  go_loopg [2, 3] 2 (fun g s2 s3 wr => ∃ i : Nat, i + g = 2 ∧ s2 = .int .i64 i ∧ s3 = .int .i64 (3 - i) ∧ Blk wr b 4 (revTo f i) t ∧ Hid (w.grownBy wr (some b)))
  case atStart => exact ⟨0, by omega, rfl, rfl, HK.out.congr fun j _ => (revTo_zero f j).symm, (⟨rfl, rfl, rfl, Nat.le_refl _, fun _ _ _ => rfl⟩ : w.grownBy w (some b))⟩
  case round =>
    obtain ⟨i, hig, rfl, rfl, k1, hg⟩ := hrel
    cases gk with
    | zero =>
      obtain rfl : i = 2 := by omega
      clear hig
      go_wp2_with fail
      go_end0
      exact ⟨rfl, k1.congr fun j hj => revTo_two f hj, hg.out⟩
    | succ g =>
      have hi2 : i < 2 := by omega
      have hlt : (i : Int) < 3 - (i : Int) := by omega
      have h3 : (0 : Int) ≤ 3 - (i : Int) := by omega
      have h4 : 3 - (i : Int) < 4 := by omega
      have e3 : (3 - (i : Int)).toNat = 3 - i := by omega
      have hi3 : (i : Int) ≤ 3 := by omega
      have mixed : Try.prog.follows Departure.mixedOrders = true := by kernel_rfl
      have c1 := k1.cell (i := i) (by omega)
      have c2 := k1.cell (i := 3 - i) (by omega)
      have f1 := k1.free i
      have f2 := k1.free (3 - i)
      have v1 : revTo f i i = f i := by unfold revTo; rw [if_neg (by omega)]
      have v2 : revTo f i (3 - i) = f (3 - i) := by unfold revTo; rw [if_neg (by omega)]
      rw [v1] at c1
      rw [v2] at c2
      have HK1 := Lib.hid k1
      clear v1 v2 k1
      go_wp2_with fail
      go_region_o
      go_wp2_with fail
      go_roundg g
      case rel =>
        refine ⟨i + 1, by omega, by go_num, ?_, ?_, ?_⟩
        · congr 1
          go_num
        · refine Blk.congr ((Blk.set (Blk.set (HK1.out.drewN 1) (i := i) (by omega) (f (3 - i))) (i := 3 - i) (by omega) (f i))) fun j hj => revTo_step f hi2 hj
        · exact gset (gset (gdrew hg.out 1) _ _) _ _
      case measure => omega
theorem rev_lit (f : Nat → Int) : (#[.int .i64 (f 3), .int .i64 (f 2), .int .i64 (f 1), .int .i64 (f 0)] : Array Value) = mk 4 (rev f) := rfl
theorem l4Turn_any (f : Nat → Int) (w : World) :
    Calls Try.prog 173 #[.agg (mk 4 f)] w fun e w' => e = .returned (.agg (mk 4 (rev f))) ∧ Below w.heap.size w w' := by
  have K1 := (Blk.new w 4 f 24).alloc (.cells (mk 4 fun _ => 0) 24)
  have K2 := Blk.new (w.alloc (.cells (mk 4 f) 24)) 4 (fun _ => 0) 24
  have HB := Lib.hid (((Below.refl w.heap.size w).alloc (Nat.le_refl _) (.cells (mk 4 f) 24)).alloc (by simp) (.cells (mk 4 fun _ => 0) 24))
  simp only [World.size_alloc] at K2
  have z4 := zero4
  have c0 : (((w.alloc (.cells (mk 4 f) 24)).alloc (.cells #[.int .i64 0, .int .i64 0, .int .i64 0, .int .i64 0] 24))).cell? ⟨w.heap.size, 0, none⟩ = some (.int .i64 (f 0)) := K1.cell (i := 0) (by omega)
  have c1 : (((w.alloc (.cells (mk 4 f) 24)).alloc (.cells #[.int .i64 0, .int .i64 0, .int .i64 0, .int .i64 0] 24))).cell? ⟨w.heap.size, 1, none⟩ = some (.int .i64 (f 1)) := K1.cell (i := 1) (by omega)
  have c2 : (((w.alloc (.cells (mk 4 f) 24)).alloc (.cells #[.int .i64 0, .int .i64 0, .int .i64 0, .int .i64 0] 24))).cell? ⟨w.heap.size, 2, none⟩ = some (.int .i64 (f 2)) := K1.cell (i := 2) (by omega)
  have c3 : (((w.alloc (.cells (mk 4 f) 24)).alloc (.cells #[.int .i64 0, .int .i64 0, .int .i64 0, .int .i64 0] 24))).cell? ⟨w.heap.size, 3, none⟩ = some (.int .i64 (f 3)) := K1.cell (i := 3) (by omega)
  have HR : Hid (mk 4 (qd (f 3) (f 2) (f 1) (f 0)) = mk 4 (rev f)) := rev_lit f
  clear z4
  go_enter Try.func173, Try.ntmps173
  go_wp2_with ((with_reducible show wpList _ _ _ (Oper.mk _ (Op.store 24 _ _) _ _ _ _ :: _) _ _); refine storeR (g := qd _ _ _ _) K2 rfl rfl rfl rfl ?_)
  try simp only [Exit.inBlock, Exit.then]
  rw [← HR.out]
  exact retcR (K2.row 4 _) rfl rfl rfl ⟨rfl, below_setRow HB.out (by omega) _⟩
set_option maxHeartbeats 400000 in
theorem fromEnd_any (f : Nat → Int) (w : World) :
    Calls Try.prog 172 #[.agg (mk 4 f)] w fun e w' => e = .returned (.agg (mk 4 (rev f))) ∧ Below w.heap.size w w' := by
  have K1 := (Blk.new w 4 f 24).alloc (.cells (mk 4 fun _ => 0) 24)
  have K2 := Blk.new (w.alloc (.cells (mk 4 f) 24)) 4 (fun _ => 0) 24
  have HB := Lib.hid (((Below.refl w.heap.size w).alloc (Nat.le_refl _) (.cells (mk 4 f) 24)).alloc (by simp) (.cells (mk 4 fun _ => 0) 24))
  simp only [World.size_alloc] at K2
  have z4 := zero4
  go_enter Try.func172, Try.ntmps172
  go_wp2_with fail
  refine (reverse4_any f _ _ _ K1).mono ?_
  rintro e w2 ⟨rfl, k1, hg⟩
  have K2 := K2.grown hg (by simp)
  have HB : Hid (Below w.heap.size w w2) := HB.out.grown hg (by simp; omega) (fun j hj => by cases hj; omega)
  clear hg K1
  go_wp2_with (first | ((with_reducible show wpList _ _ _ (Oper.mk _ (Op.load 24 _) _ _ _ _ :: _) _ _); refine loadR (k1) rfl rfl rfl ?_) | ((with_reducible show wpList _ _ _ (Oper.mk _ (Op.store 24 _ _) _ _ _ _ :: _) _ _); refine storeR (K2) rfl rfl rfl rfl ?_))
  try simp only [Exit.inBlock, Exit.then]
  exact retcR (K2.row 4 _) rfl rfl rfl ⟨rfl, below_setRow HB.out (by omega) _⟩
set_option maxHeartbeats 400000 in
theorem specTurn_any (f : Nat → Int) (w : World) :
    Calls Try.prog 93 #[.agg (mk 4 f)] w fun e w' => e = .returned (.tuple #[.agg (mk 4 (tuR f)), .bool (rwO f)]) ∧ Below w.heap.size w w' := by
  have K1 := (Blk.new w 4 f 24).alloc (.cells (mk 4 fun _ => 0) 24)
  have K2 := Blk.new (w.alloc (.cells (mk 4 f) 24)) 4 (fun _ => 0) 24
  have HB := Lib.hid (((Below.refl w.heap.size w).alloc (Nat.le_refl _) (.cells (mk 4 f) 24)).alloc (by simp) (.cells (mk 4 fun _ => 0) 24))
  simp only [World.size_alloc] at K2
  have z4 := zero4
  by_cases hV : VdRow f
  · rw [tu_yes hV, rwO_yes hV]
    have HO := Lib.hid (rwO_yes hV)
    clear hV
    go_enter Try.func93, Try.ntmps93
    go_wp2_with ((with_reducible show wpList _ _ _ (Oper.mk _ (Op.load 24 _) _ _ _ _ :: _) _ _); refine loadR (K1) rfl rfl rfl ?_)
    refine (l4Row_any _ _).mono ?_
    rw [HO.out]
    rintro e w1 ⟨rfl, hb⟩
    have K1 := K1.below hb K1.lt
    have K2 := K2.below hb K2.lt
    have HB : Hid (Below w.heap.size w w1) := HB.out.trans (hb.mono HB.out.size)
    clear hb
    go_wp2_with ((with_reducible show wpList _ _ _ (Oper.mk _ (Op.load 24 _) _ _ _ _ :: _) _ _); refine loadR (K1) rfl rfl rfl ?_)
    refine (l4Turn_any f _).mono ?_
    rintro e w2 ⟨rfl, hb⟩
    have K1 := K1.below hb K1.lt
    have K2 := K2.below hb K2.lt
    have HB : Hid (Below w.heap.size w w2) := HB.out.trans (hb.mono HB.out.size)
    clear hb
    go_wp2_with ((with_reducible show wpList _ _ _ (Oper.mk _ (Op.store 24 _ _) _ _ _ _ :: _) _ _); refine storeR (K2) rfl rfl rfl rfl ?_)
    try simp only [Exit.inBlock, Exit.then]
    exact retctR (K2.row 4 _) rfl rfl rfl ⟨rfl, below_setRow HB.out (by omega) _⟩
  · rw [tu_no hV, rwO_no hV]
    have HO := Lib.hid (rwO_no hV)
    clear hV
    go_enter Try.func93, Try.ntmps93
    go_wp2_with ((with_reducible show wpList _ _ _ (Oper.mk _ (Op.load 24 _) _ _ _ _ :: _) _ _); refine loadR (K1) rfl rfl rfl ?_)
    refine (l4Row_any _ _).mono ?_
    rw [HO.out]
    rintro e w1 ⟨rfl, hb⟩
    have K1 := K1.below hb K1.lt
    have K2 := K2.below hb K2.lt
    have HB : Hid (Below w.heap.size w w1) := HB.out.trans (hb.mono HB.out.size)
    clear hb
    go_wp2_with ((with_reducible show wpList _ _ _ (Oper.mk _ (Op.store 24 _ _) _ _ _ _ :: _) _ _); refine storeR (K2) rfl rfl rfl rfl ?_)
    try simp only [Exit.inBlock, Exit.then]
    exact retctR (K2.row 4 _) rfl rfl rfl ⟨rfl, below_setRow HB.out (by omega) _⟩
set_option maxHeartbeats 400000 in
theorem implTurn_any (f : Nat → Int) (w : World) :
    Calls Try.prog 92 #[.agg (mk 4 f)] w fun e w' => e = .returned (.tuple #[.agg (mk 4 (tuR f)), .bool (rwO f)]) ∧ Below w.heap.size w w' := by
  have K1 := (Blk.new w 4 f 24).alloc (.cells (mk 4 fun _ => 0) 24)
  have K2 := Blk.new (w.alloc (.cells (mk 4 f) 24)) 4 (fun _ => 0) 24
  have HB := Lib.hid (((Below.refl w.heap.size w).alloc (Nat.le_refl _) (.cells (mk 4 f) 24)).alloc (by simp) (.cells (mk 4 fun _ => 0) 24))
  simp only [World.size_alloc] at K2
  have z4 := zero4
  by_cases hV : VdRow f
  · rw [tu_yes hV, rwO_yes hV]
    have HO := Lib.hid (rwO_yes hV)
    clear hV
    go_enter Try.func92, Try.ntmps92
    go_wp2_with ((with_reducible show wpList _ _ _ (Oper.mk _ (Op.load 24 _) _ _ _ _ :: _) _ _); refine loadR (K1) rfl rfl rfl ?_)
    refine (implIsRow_any _ _).mono ?_
    rw [HO.out]
    rintro e w1 ⟨rfl, hb⟩
    have K1 := K1.below hb K1.lt
    have K2 := K2.below hb K2.lt
    have HB : Hid (Below w.heap.size w w1) := HB.out.trans (hb.mono HB.out.size)
    clear hb
    go_wp2_with ((with_reducible show wpList _ _ _ (Oper.mk _ (Op.load 24 _) _ _ _ _ :: _) _ _); refine loadR (K1) rfl rfl rfl ?_)
    refine (fromEnd_any f _).mono ?_
    rintro e w2 ⟨rfl, hb⟩
    have K1 := K1.below hb K1.lt
    have K2 := K2.below hb K2.lt
    have HB : Hid (Below w.heap.size w w2) := HB.out.trans (hb.mono HB.out.size)
    clear hb
    go_wp2_with ((with_reducible show wpList _ _ _ (Oper.mk _ (Op.store 24 _ _) _ _ _ _ :: _) _ _); refine storeR (K2) rfl rfl rfl rfl ?_)
    try simp only [Exit.inBlock, Exit.then]
    exact retctR (K2.row 4 _) rfl rfl rfl ⟨rfl, below_setRow HB.out (by omega) _⟩
  · rw [tu_no hV, rwO_no hV]
    have HO := Lib.hid (rwO_no hV)
    clear hV
    go_enter Try.func92, Try.ntmps92
    go_wp2_with ((with_reducible show wpList _ _ _ (Oper.mk _ (Op.load 24 _) _ _ _ _ :: _) _ _); refine loadR (K1) rfl rfl rfl ?_)
    refine (implIsRow_any _ _).mono ?_
    rw [HO.out]
    rintro e w1 ⟨rfl, hb⟩
    have K1 := K1.below hb K1.lt
    have K2 := K2.below hb K2.lt
    have HB : Hid (Below w.heap.size w w1) := HB.out.trans (hb.mono HB.out.size)
    clear hb
    go_wp2_with ((with_reducible show wpList _ _ _ (Oper.mk _ (Op.store 24 _ _) _ _ _ _ :: _) _ _); refine storeR (K2) rfl rfl rfl rfl ?_)
    try simp only [Exit.inBlock, Exit.then]
    exact retctR (K2.row 4 _) rfl rfl rfl ⟨rfl, below_setRow HB.out (by omega) _⟩
end Go.Proofs.Ytfikbbhlenopfaa
