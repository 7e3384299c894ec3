/-
  The contract of the program's linesBefore: the rows before the four lines of a side. The conditions: all numbers are those of cells, the direction is one.
-/
import Derived.Test.YtmcmpedmgibmkabGreatSpecLists
import Derived.Test.YtmcmpedmgibmkabGreatImplBefore
import Derived.Test.YtmcmpedmgibmkabGreatOver
import Derived.Deep.RegionHeld3
namespace Go.Proofs.YtmcmpedmgibmkabGreat
open Go.RowKit Plain
attribute [local go_sem] store_new
set_option linter.unusedVariables false
set_option linter.unusedSimpArgs false


theorem heldV_step {w W w6 : World} {b c e n : Nat} {f : Nat → Int} {t u : TypeId} {cs ds : Array Value} (h : Blk W b n f t ∧ Oth W c cs u ∧ Oth W e ds u ∧ Below w.heap.size w W) (hb : Below W.heap.size W w6) : Blk w6 b n f t ∧ Oth w6 c cs u ∧ Oth w6 e ds u ∧ Below w.heap.size w w6 :=
  ⟨h.1.below hb h.1.lt, h.2.1.below hb h.2.1.lt, h.2.2.1.below hb h.2.2.1.lt, h.2.2.2.trans (hb.mono h.2.2.2.size)⟩
theorem view_line (f : Nat → Int) (d i : Nat) (hi : i < 4) (W : World) : (Instr.index 25 (.agg (mk 16 (viewF f d))) (.int .i64 (i : Int))).run Tryz.prog W = .ok (.agg (mk 4 (lineF f d i))) W := by
  rw [idxG _ i hi, mk_congr (g := lineF f d i) fun c hc => by unfold viewF lineF; rw [show (i * 4 + c) / 4 = i by omega, show (i * 4 + c) % 4 = c by omega]]

theorem field_0 (w : World) : (Instr.field 60 (.agg #[.func (.func 55) #[] #[], .func (.func 55) #[] #[]]) 0).run Tryz.prog w = .ok (.func (.func 55) #[] #[]) w := by kernel_rfl
set_option maxHeartbeats 2000000 in
set_option maxRecDepth 20000 in
theorem linesBefore_0 (f : Nat → Int) (w : World) (hV : Vd f) :
    Calls Tryz.prog 31 #[.agg (mk 16 f), .int .i64 0] w fun e w' => ∃ v, e = .returned (.agg (vk 4 v)) ∧ LinesB w' w.heap.size f 0 4 v ∧ Below w.heap.size w w' := by
  have zl := zeroL
  have z4 := zero4
  have K1 := ((Blk.new w 16 f 27).alloc (.cells (vk 4 fun _ => .slice none 0 0) 65)).alloc (.cells (vk 4 fun _ => .slice none 0 0) 65)
  have K2 := (Oth.new (w.alloc (.cells (mk 16 f) 27)) (vk 4 fun _ => .slice none 0 0) 65).alloc (.cells (vk 4 fun _ => .slice none 0 0) 65)
  have K3 := Oth.new ((w.alloc (.cells (mk 16 f) 27)).alloc (.cells (vk 4 fun _ => .slice none 0 0) 65)) (vk 4 fun _ => .slice none 0 0) 65
  have HB := Lib.hid ((((Below.refl w.heap.size w).alloc (Nat.le_refl _) (.cells (mk 16 f) 27)).alloc (by simp) (.cells (vk 4 fun _ => .slice none 0 0) 65)).alloc (by simp; omega) (.cells (vk 4 fun _ => .slice none 0 0) 65))
  simp only [World.size_alloc] at K2 K3
  have HV := Lib.hid hV
  clear hV
  go_enter Tryz.func31, Tryz.ntmps31
  go_wp2_with ((with_reducible show wpList _ _ _ (Oper.mk _ (Op.store 65 _ _) _ _ _ _ :: _) _ _); refine wpl_store_vk rfl _ _ _ rfl rfl rfl K3 sizeLL (by simp [vk, Value.oneCell']) ?_)
  have K1 := K1.rowOther (w.heap.size + 1 + 1) (vk 4 fun _ => .slice none 0 0) (by omega)
  have K2 := K2.rowOther (w.heap.size + 1 + 1) (vk 4 fun _ => .slice none 0 0) (by omega)
  have K3 := K3.row (vk 4 fun _ => .slice none 0 0)
  have HB := Lib.hid (below_setRow HB.out (show w.heap.size ≤ w.heap.size + 1 + 1 by omega) (vk 4 fun _ => .slice none 0 0))
  generalize World.setRow _ (w.heap.size + 1 + 1) (vk 4 fun _ => .slice none 0 0) = w1 at *
  have a0 := fun (W : World) (h : Blk W w.heap.size 16 f 27) => h.cell (i := 0) (by omega)
  have a1 := fun (W : World) (h : Blk W w.heap.size 16 f 27) => h.cell (i := 1) (by omega)
  have a2 := fun (W : World) (h : Blk W w.heap.size 16 f 27) => h.cell (i := 2) (by omega)
  have a3 := fun (W : World) (h : Blk W w.heap.size 16 f 27) => h.cell (i := 3) (by omega)
  have a4 := fun (W : World) (h : Blk W w.heap.size 16 f 27) => h.cell (i := 4) (by omega)
  have a5 := fun (W : World) (h : Blk W w.heap.size 16 f 27) => h.cell (i := 5) (by omega)
  have a6 := fun (W : World) (h : Blk W w.heap.size 16 f 27) => h.cell (i := 6) (by omega)
  have a7 := fun (W : World) (h : Blk W w.heap.size 16 f 27) => h.cell (i := 7) (by omega)
  have a8 := fun (W : World) (h : Blk W w.heap.size 16 f 27) => h.cell (i := 8) (by omega)
  have a9 := fun (W : World) (h : Blk W w.heap.size 16 f 27) => h.cell (i := 9) (by omega)
  have a10 := fun (W : World) (h : Blk W w.heap.size 16 f 27) => h.cell (i := 10) (by omega)
  have a11 := fun (W : World) (h : Blk W w.heap.size 16 f 27) => h.cell (i := 11) (by omega)
  have a12 := fun (W : World) (h : Blk W w.heap.size 16 f 27) => h.cell (i := 12) (by omega)
  have a13 := fun (W : World) (h : Blk W w.heap.size 16 f 27) => h.cell (i := 13) (by omega)
  have a14 := fun (W : World) (h : Blk W w.heap.size 16 f 27) => h.cell (i := 14) (by omega)
  have a15 := fun (W : World) (h : Blk W w.heap.size 16 f 27) => h.cell (i := 15) (by omega)
  have ae : (#[.int .i64 (f 0), .int .i64 (f 1), .int .i64 (f 2), .int .i64 (f 3), .int .i64 (f 4), .int .i64 (f 5), .int .i64 (f 6), .int .i64 (f 7), .int .i64 (f 8), .int .i64 (f 9), .int .i64 (f 10), .int .i64 (f 11), .int .i64 (f 12), .int .i64 (f 13), .int .i64 (f 14), .int .i64 (f 15)] : Array Value) = mk 16 f := rfl
  have iV := idxV0
  have iF := field_0
  have iB := fieldB0
  go_region_held3 (fun w' => Blk w' w.heap.size 16 f 27 ∧ Oth w' (w.heap.size + 1) (vk 4 fun _ => .slice none 0 0) 65 ∧ Oth w' (w.heap.size + 1 + 1) (vk 4 fun _ => .slice none 0 0) 65 ∧ Below w.heap.size w w') (first | exact ⟨K1.drew, K2.drew, K3.drew, HB.out.drew⟩ | assumption) (first | (go_at_call 29; refine (views_any _).mono ?_; rintro e w6 ⟨rfl, hb6⟩; have J := heldV_step (by assumption) hb6; clear hb6) | (go_at_call 55; refine (there_0 f _).mono ?_; rintro e w7 ⟨rfl, hb7⟩; have J2 := heldV_step (by assumption) hb7; clear hb7) | fail)
  all_goals
    clear a0 a1 a2 a3 a4 a5 a6 a7 a8 a9 a10 a11 a12 a13 a14 a15 ae iV iF iB K1 K2 K3 HB
    have S1 : Blk w7 w.heap.size 16 f 27 ∧ Oth w7 (w.heap.size + 1) (vk 4 fun _ => .slice none 0 0) 65 ∧ Oth w7 (w.heap.size + 1 + 1) (vk 4 fun _ => .slice none 0 0) 65 ∧ Below w.heap.size w w7 := by assumption
    obtain ⟨K1, K2, K3, hb⟩ := S1
    have HB := Lib.hid hb
    clear hb
    go_wp2_with fail
    go_loopg [16] 4 (fun gk s16 wr => ∃ (i : Nat) (v : Nat → Value), i + gk = 4 ∧ s16 = .int .i64 i ∧ Oth wr (w.heap.size + 1) (vk 4 fun _ => .slice none 0 0) 65 ∧ Oth wr (w.heap.size + 1 + 1) (vk 4 v) 65 ∧ Hid (LinesB wr (w.heap.size + 3) f 0 i v) ∧ Hid (Below w.heap.size w wr))
    case atStart => exact ⟨0, _, by omega, rfl, K2, K3, lists_zero _ _ _ _ _, HB⟩
    case round =>
      clear K1 K2 K3 HB
      obtain ⟨i, v, hig, rfl, K2, K3, HL, HB⟩ := hrel
      cases gk with
      | zero =>
        have hi : ¬ ((i : Int) < 4) := by omega
        obtain rfl : i = 4 := by omega
        have H1 := Lib.hid (listsOne HL.out)
        go_wp2_with (first | ((with_reducible show wpList _ _ _ (Oper.mk _ (Op.load 65 _) _ _ _ _ :: _) _ _); refine wpl_load_vk rfl _ _ rfl rfl K3 Tryz.underlying65 rfl sizeLL ?_) | ((with_reducible show wpList _ _ _ (Oper.mk _ (Op.store 65 _ _) _ _ _ _ :: _) _ _); refine wpl_store_vk rfl _ _ _ rfl rfl rfl K2 sizeLL H1.out ?_))
        try simp only [Exit.inBlock, Exit.then]
        exact ret_vk Tryz.underlying65 rfl sizeLL rfl rfl rfl (K2.row (vk 4 v)) ⟨v, rfl, (HL.out.rowOther _ _ (by omega)).wide (by omega), below_setRow HB.out (by omega) _⟩
      | succ g =>
        have hi4 : (i : Int) < 4 := by omega
        have hi0 : (0 : Int) ≤ (i : Int) := by omega
        have hi9 : i < 4 := by omega
        have iG := fun W => view_line f 0 i hi9 W
        have K7 := Blk.new wr 4 (lineF f 0 i) 24
        have hs := HB.out.size
        go_wp2_with ((with_reducible show wpList _ _ _ (Oper.mk _ (Op.load 24 _) _ _ _ _ :: _) _ _); refine loadR (K7) rfl rfl rfl ?_)
        refine (implBefore_any (lineF f 0 i) _).mono ?_
        rintro e w3 ⟨g3, c3, rfl, ho, hb⟩
        have hs2 := K3.lt
        have hgs : wr.heap.size + 1 ≤ g3 := by have := (ho.lt g3 rfl).1; simpa using this
        have K2 := (K2.alloc (.cells (mk 4 (lineF f 0 i)) 24)).below hb (by simp; have := K2.lt; omega)
        have K3 := (K3.alloc (.cells (mk 4 (lineF f 0 i)) 24)).below hb (by simp; omega)
        obtain ⟨_, _, e1, _, HC⟩ := KRow.of_list (lnR_all f 0 i) ho
        cases e1
        have HL := Lib.hid (((HL.out.alloc (.cells (mk 4 (lineF f 0 i)) 24)).below hb).snoc (c := c3) (show w.heap.size + 3 ≤ g3 by omega) HC)
        have HB : Hid (Below w.heap.size w w3) := (HB.out.alloc HB.out.size _).trans (hb.mono (by simp; omega))
        have q3 := K3.get (i := i) hi9
        have f3 := K3.free i
        have hn : (rbR (lineF f 0 i)).length = (lnR f 0 i).length := rfl
        rw [hn]
        clear hb ho HC hn iG K7
        generalize (lnR f 0 i).length = n at *
        go_wp2_with fail
        go_roundg g
        case rel => exact ⟨i + 1, _, by omega, by go_num, K2.setOther _ _ (by dsimp only; omega), K3.set hi9 _, HL.out.setOther _ _ (by dsimp only; omega), HB.out.setCell (by dsimp only; omega) _⟩
        case measure => omega
theorem field_1 (w : World) : (Instr.field 60 (.agg #[.func (.func 56) #[] #[], .func (.func 56) #[] #[]]) 0).run Tryz.prog w = .ok (.func (.func 56) #[] #[]) w := by kernel_rfl
set_option maxHeartbeats 2000000 in
set_option maxRecDepth 20000 in
theorem linesBefore_1 (f : Nat → Int) (w : World) (hV : Vd f) :
    Calls Tryz.prog 31 #[.agg (mk 16 f), .int .i64 1] w fun e w' => ∃ v, e = .returned (.agg (vk 4 v)) ∧ LinesB w' w.heap.size f 1 4 v ∧ Below w.heap.size w w' := by
  have zl := zeroL
  have z4 := zero4
  have K1 := ((Blk.new w 16 f 27).alloc (.cells (vk 4 fun _ => .slice none 0 0) 65)).alloc (.cells (vk 4 fun _ => .slice none 0 0) 65)
  have K2 := (Oth.new (w.alloc (.cells (mk 16 f) 27)) (vk 4 fun _ => .slice none 0 0) 65).alloc (.cells (vk 4 fun _ => .slice none 0 0) 65)
  have K3 := Oth.new ((w.alloc (.cells (mk 16 f) 27)).alloc (.cells (vk 4 fun _ => .slice none 0 0) 65)) (vk 4 fun _ => .slice none 0 0) 65
  have HB := Lib.hid ((((Below.refl w.heap.size w).alloc (Nat.le_refl _) (.cells (mk 16 f) 27)).alloc (by simp) (.cells (vk 4 fun _ => .slice none 0 0) 65)).alloc (by simp; omega) (.cells (vk 4 fun _ => .slice none 0 0) 65))
  simp only [World.size_alloc] at K2 K3
  have HV := Lib.hid hV
  clear hV
  go_enter Tryz.func31, Tryz.ntmps31
  go_wp2_with ((with_reducible show wpList _ _ _ (Oper.mk _ (Op.store 65 _ _) _ _ _ _ :: _) _ _); refine wpl_store_vk rfl _ _ _ rfl rfl rfl K3 sizeLL (by simp [vk, Value.oneCell']) ?_)
  have K1 := K1.rowOther (w.heap.size + 1 + 1) (vk 4 fun _ => .slice none 0 0) (by omega)
  have K2 := K2.rowOther (w.heap.size + 1 + 1) (vk 4 fun _ => .slice none 0 0) (by omega)
  have K3 := K3.row (vk 4 fun _ => .slice none 0 0)
  have HB := Lib.hid (below_setRow HB.out (show w.heap.size ≤ w.heap.size + 1 + 1 by omega) (vk 4 fun _ => .slice none 0 0))
  generalize World.setRow _ (w.heap.size + 1 + 1) (vk 4 fun _ => .slice none 0 0) = w1 at *
  have a0 := fun (W : World) (h : Blk W w.heap.size 16 f 27) => h.cell (i := 0) (by omega)
  have a1 := fun (W : World) (h : Blk W w.heap.size 16 f 27) => h.cell (i := 1) (by omega)
  have a2 := fun (W : World) (h : Blk W w.heap.size 16 f 27) => h.cell (i := 2) (by omega)
  have a3 := fun (W : World) (h : Blk W w.heap.size 16 f 27) => h.cell (i := 3) (by omega)
  have a4 := fun (W : World) (h : Blk W w.heap.size 16 f 27) => h.cell (i := 4) (by omega)
  have a5 := fun (W : World) (h : Blk W w.heap.size 16 f 27) => h.cell (i := 5) (by omega)
  have a6 := fun (W : World) (h : Blk W w.heap.size 16 f 27) => h.cell (i := 6) (by omega)
  have a7 := fun (W : World) (h : Blk W w.heap.size 16 f 27) => h.cell (i := 7) (by omega)
  have a8 := fun (W : World) (h : Blk W w.heap.size 16 f 27) => h.cell (i := 8) (by omega)
  have a9 := fun (W : World) (h : Blk W w.heap.size 16 f 27) => h.cell (i := 9) (by omega)
  have a10 := fun (W : World) (h : Blk W w.heap.size 16 f 27) => h.cell (i := 10) (by omega)
  have a11 := fun (W : World) (h : Blk W w.heap.size 16 f 27) => h.cell (i := 11) (by omega)
  have a12 := fun (W : World) (h : Blk W w.heap.size 16 f 27) => h.cell (i := 12) (by omega)
  have a13 := fun (W : World) (h : Blk W w.heap.size 16 f 27) => h.cell (i := 13) (by omega)
  have a14 := fun (W : World) (h : Blk W w.heap.size 16 f 27) => h.cell (i := 14) (by omega)
  have a15 := fun (W : World) (h : Blk W w.heap.size 16 f 27) => h.cell (i := 15) (by omega)
  have ae : (#[.int .i64 (f 0), .int .i64 (f 1), .int .i64 (f 2), .int .i64 (f 3), .int .i64 (f 4), .int .i64 (f 5), .int .i64 (f 6), .int .i64 (f 7), .int .i64 (f 8), .int .i64 (f 9), .int .i64 (f 10), .int .i64 (f 11), .int .i64 (f 12), .int .i64 (f 13), .int .i64 (f 14), .int .i64 (f 15)] : Array Value) = mk 16 f := rfl
  have iV := idxV1
  have iF := field_1
  have iB := fieldB0
  go_region_held3 (fun w' => Blk w' w.heap.size 16 f 27 ∧ Oth w' (w.heap.size + 1) (vk 4 fun _ => .slice none 0 0) 65 ∧ Oth w' (w.heap.size + 1 + 1) (vk 4 fun _ => .slice none 0 0) 65 ∧ Below w.heap.size w w') (first | exact ⟨K1.drew, K2.drew, K3.drew, HB.out.drew⟩ | assumption) (first | (go_at_call 29; refine (views_any _).mono ?_; rintro e w6 ⟨rfl, hb6⟩; have J := heldV_step (by assumption) hb6; clear hb6) | (go_at_call 56; refine (there_1 f _).mono ?_; rintro e w7 ⟨rfl, hb7⟩; have J2 := heldV_step (by assumption) hb7; clear hb7) | fail)
  all_goals
    clear a0 a1 a2 a3 a4 a5 a6 a7 a8 a9 a10 a11 a12 a13 a14 a15 ae iV iF iB K1 K2 K3 HB
    have S1 : Blk w7 w.heap.size 16 f 27 ∧ Oth w7 (w.heap.size + 1) (vk 4 fun _ => .slice none 0 0) 65 ∧ Oth w7 (w.heap.size + 1 + 1) (vk 4 fun _ => .slice none 0 0) 65 ∧ Below w.heap.size w w7 := by assumption
    obtain ⟨K1, K2, K3, hb⟩ := S1
    have HB := Lib.hid hb
    clear hb
    go_wp2_with fail
    go_loopg [16] 4 (fun gk s16 wr => ∃ (i : Nat) (v : Nat → Value), i + gk = 4 ∧ s16 = .int .i64 i ∧ Oth wr (w.heap.size + 1) (vk 4 fun _ => .slice none 0 0) 65 ∧ Oth wr (w.heap.size + 1 + 1) (vk 4 v) 65 ∧ Hid (LinesB wr (w.heap.size + 3) f 1 i v) ∧ Hid (Below w.heap.size w wr))
    case atStart => exact ⟨0, _, by omega, rfl, K2, K3, lists_zero _ _ _ _ _, HB⟩
    case round =>
      clear K1 K2 K3 HB
      obtain ⟨i, v, hig, rfl, K2, K3, HL, HB⟩ := hrel
      cases gk with
      | zero =>
        have hi : ¬ ((i : Int) < 4) := by omega
        obtain rfl : i = 4 := by omega
        have H1 := Lib.hid (listsOne HL.out)
        go_wp2_with (first | ((with_reducible show wpList _ _ _ (Oper.mk _ (Op.load 65 _) _ _ _ _ :: _) _ _); refine wpl_load_vk rfl _ _ rfl rfl K3 Tryz.underlying65 rfl sizeLL ?_) | ((with_reducible show wpList _ _ _ (Oper.mk _ (Op.store 65 _ _) _ _ _ _ :: _) _ _); refine wpl_store_vk rfl _ _ _ rfl rfl rfl K2 sizeLL H1.out ?_))
        try simp only [Exit.inBlock, Exit.then]
        exact ret_vk Tryz.underlying65 rfl sizeLL rfl rfl rfl (K2.row (vk 4 v)) ⟨v, rfl, (HL.out.rowOther _ _ (by omega)).wide (by omega), below_setRow HB.out (by omega) _⟩
      | succ g =>
        have hi4 : (i : Int) < 4 := by omega
        have hi0 : (0 : Int) ≤ (i : Int) := by omega
        have hi9 : i < 4 := by omega
        have iG := fun W => view_line f 1 i hi9 W
        have K7 := Blk.new wr 4 (lineF f 1 i) 24
        have hs := HB.out.size
        go_wp2_with ((with_reducible show wpList _ _ _ (Oper.mk _ (Op.load 24 _) _ _ _ _ :: _) _ _); refine loadR (K7) rfl rfl rfl ?_)
        refine (implBefore_any (lineF f 1 i) _).mono ?_
        rintro e w3 ⟨g3, c3, rfl, ho, hb⟩
        have hs2 := K3.lt
        have hgs : wr.heap.size + 1 ≤ g3 := by have := (ho.lt g3 rfl).1; simpa using this
        have K2 := (K2.alloc (.cells (mk 4 (lineF f 1 i)) 24)).below hb (by simp; have := K2.lt; omega)
        have K3 := (K3.alloc (.cells (mk 4 (lineF f 1 i)) 24)).below hb (by simp; omega)
        obtain ⟨_, _, e1, _, HC⟩ := KRow.of_list (lnR_all f 1 i) ho
        cases e1
        have HL := Lib.hid (((HL.out.alloc (.cells (mk 4 (lineF f 1 i)) 24)).below hb).snoc (c := c3) (show w.heap.size + 3 ≤ g3 by omega) HC)
        have HB : Hid (Below w.heap.size w w3) := (HB.out.alloc HB.out.size _).trans (hb.mono (by simp; omega))
        have q3 := K3.get (i := i) hi9
        have f3 := K3.free i
        have hn : (rbR (lineF f 1 i)).length = (lnR f 1 i).length := rfl
        rw [hn]
        clear hb ho HC hn iG K7
        generalize (lnR f 1 i).length = n at *
        go_wp2_with fail
        go_roundg g
        case rel => exact ⟨i + 1, _, by omega, by go_num, K2.setOther _ _ (by dsimp only; omega), K3.set hi9 _, HL.out.setOther _ _ (by dsimp only; omega), HB.out.setCell (by dsimp only; omega) _⟩
        case measure => omega
theorem field_2 (w : World) : (Instr.field 60 (.agg #[.func (.func 57) #[] #[], .func (.func 57) #[] #[]]) 0).run Tryz.prog w = .ok (.func (.func 57) #[] #[]) w := by kernel_rfl
set_option maxHeartbeats 2000000 in
set_option maxRecDepth 20000 in
theorem linesBefore_2 (f : Nat → Int) (w : World) (hV : Vd f) :
    Calls Tryz.prog 31 #[.agg (mk 16 f), .int .i64 2] w fun e w' => ∃ v, e = .returned (.agg (vk 4 v)) ∧ LinesB w' w.heap.size f 2 4 v ∧ Below w.heap.size w w' := by
  have zl := zeroL
  have z4 := zero4
  have K1 := ((Blk.new w 16 f 27).alloc (.cells (vk 4 fun _ => .slice none 0 0) 65)).alloc (.cells (vk 4 fun _ => .slice none 0 0) 65)
  have K2 := (Oth.new (w.alloc (.cells (mk 16 f) 27)) (vk 4 fun _ => .slice none 0 0) 65).alloc (.cells (vk 4 fun _ => .slice none 0 0) 65)
  have K3 := Oth.new ((w.alloc (.cells (mk 16 f) 27)).alloc (.cells (vk 4 fun _ => .slice none 0 0) 65)) (vk 4 fun _ => .slice none 0 0) 65
  have HB := Lib.hid ((((Below.refl w.heap.size w).alloc (Nat.le_refl _) (.cells (mk 16 f) 27)).alloc (by simp) (.cells (vk 4 fun _ => .slice none 0 0) 65)).alloc (by simp; omega) (.cells (vk 4 fun _ => .slice none 0 0) 65))
  simp only [World.size_alloc] at K2 K3
  have HV := Lib.hid hV
  clear hV
  go_enter Tryz.func31, Tryz.ntmps31
  go_wp2_with ((with_reducible show wpList _ _ _ (Oper.mk _ (Op.store 65 _ _) _ _ _ _ :: _) _ _); refine wpl_store_vk rfl _ _ _ rfl rfl rfl K3 sizeLL (by simp [vk, Value.oneCell']) ?_)
  have K1 := K1.rowOther (w.heap.size + 1 + 1) (vk 4 fun _ => .slice none 0 0) (by omega)
  have K2 := K2.rowOther (w.heap.size + 1 + 1) (vk 4 fun _ => .slice none 0 0) (by omega)
  have K3 := K3.row (vk 4 fun _ => .slice none 0 0)
  have HB := Lib.hid (below_setRow HB.out (show w.heap.size ≤ w.heap.size + 1 + 1 by omega) (vk 4 fun _ => .slice none 0 0))
  generalize World.setRow _ (w.heap.size + 1 + 1) (vk 4 fun _ => .slice none 0 0) = w1 at *
  have a0 := fun (W : World) (h : Blk W w.heap.size 16 f 27) => h.cell (i := 0) (by omega)
  have a1 := fun (W : World) (h : Blk W w.heap.size 16 f 27) => h.cell (i := 1) (by omega)
  have a2 := fun (W : World) (h : Blk W w.heap.size 16 f 27) => h.cell (i := 2) (by omega)
  have a3 := fun (W : World) (h : Blk W w.heap.size 16 f 27) => h.cell (i := 3) (by omega)
  have a4 := fun (W : World) (h : Blk W w.heap.size 16 f 27) => h.cell (i := 4) (by omega)
  have a5 := fun (W : World) (h : Blk W w.heap.size 16 f 27) => h.cell (i := 5) (by omega)
  have a6 := fun (W : World) (h : Blk W w.heap.size 16 f 27) => h.cell (i := 6) (by omega)
  have a7 := fun (W : World) (h : Blk W w.heap.size 16 f 27) => h.cell (i := 7) (by omega)
  have a8 := fun (W : World) (h : Blk W w.heap.size 16 f 27) => h.cell (i := 8) (by omega)
  have a9 := fun (W : World) (h : Blk W w.heap.size 16 f 27) => h.cell (i := 9) (by omega)
  have a10 := fun (W : World) (h : Blk W w.heap.size 16 f 27) => h.cell (i := 10) (by omega)
  have a11 := fun (W : World) (h : Blk W w.heap.size 16 f 27) => h.cell (i := 11) (by omega)
  have a12 := fun (W : World) (h : Blk W w.heap.size 16 f 27) => h.cell (i := 12) (by omega)
  have a13 := fun (W : World) (h : Blk W w.heap.size 16 f 27) => h.cell (i := 13) (by omega)
  have a14 := fun (W : World) (h : Blk W w.heap.size 16 f 27) => h.cell (i := 14) (by omega)
  have a15 := fun (W : World) (h : Blk W w.heap.size 16 f 27) => h.cell (i := 15) (by omega)
  have ae : (#[.int .i64 (f 0), .int .i64 (f 1), .int .i64 (f 2), .int .i64 (f 3), .int .i64 (f 4), .int .i64 (f 5), .int .i64 (f 6), .int .i64 (f 7), .int .i64 (f 8), .int .i64 (f 9), .int .i64 (f 10), .int .i64 (f 11), .int .i64 (f 12), .int .i64 (f 13), .int .i64 (f 14), .int .i64 (f 15)] : Array Value) = mk 16 f := rfl
  have iV := idxV2
  have iF := field_2
  have iB := fieldB0
  go_region_held3 (fun w' => Blk w' w.heap.size 16 f 27 ∧ Oth w' (w.heap.size + 1) (vk 4 fun _ => .slice none 0 0) 65 ∧ Oth w' (w.heap.size + 1 + 1) (vk 4 fun _ => .slice none 0 0) 65 ∧ Below w.heap.size w w') (first | exact ⟨K1.drew, K2.drew, K3.drew, HB.out.drew⟩ | assumption) (first | (go_at_call 29; refine (views_any _).mono ?_; rintro e w6 ⟨rfl, hb6⟩; have J := heldV_step (by assumption) hb6; clear hb6) | (go_at_call 57; refine (there_2 f _).mono ?_; rintro e w7 ⟨rfl, hb7⟩; have J2 := heldV_step (by assumption) hb7; clear hb7) | fail)
  all_goals
    clear a0 a1 a2 a3 a4 a5 a6 a7 a8 a9 a10 a11 a12 a13 a14 a15 ae iV iF iB K1 K2 K3 HB
    have S1 : Blk w7 w.heap.size 16 f 27 ∧ Oth w7 (w.heap.size + 1) (vk 4 fun _ => .slice none 0 0) 65 ∧ Oth w7 (w.heap.size + 1 + 1) (vk 4 fun _ => .slice none 0 0) 65 ∧ Below w.heap.size w w7 := by assumption
    obtain ⟨K1, K2, K3, hb⟩ := S1
    have HB := Lib.hid hb
    clear hb
    go_wp2_with fail
    go_loopg [16] 4 (fun gk s16 wr => ∃ (i : Nat) (v : Nat → Value), i + gk = 4 ∧ s16 = .int .i64 i ∧ Oth wr (w.heap.size + 1) (vk 4 fun _ => .slice none 0 0) 65 ∧ Oth wr (w.heap.size + 1 + 1) (vk 4 v) 65 ∧ Hid (LinesB wr (w.heap.size + 3) f 2 i v) ∧ Hid (Below w.heap.size w wr))
    case atStart => exact ⟨0, _, by omega, rfl, K2, K3, lists_zero _ _ _ _ _, HB⟩
    case round =>
      clear K1 K2 K3 HB
      obtain ⟨i, v, hig, rfl, K2, K3, HL, HB⟩ := hrel
      cases gk with
      | zero =>
        have hi : ¬ ((i : Int) < 4) := by omega
        obtain rfl : i = 4 := by omega
        have H1 := Lib.hid (listsOne HL.out)
        go_wp2_with (first | ((with_reducible show wpList _ _ _ (Oper.mk _ (Op.load 65 _) _ _ _ _ :: _) _ _); refine wpl_load_vk rfl _ _ rfl rfl K3 Tryz.underlying65 rfl sizeLL ?_) | ((with_reducible show wpList _ _ _ (Oper.mk _ (Op.store 65 _ _) _ _ _ _ :: _) _ _); refine wpl_store_vk rfl _ _ _ rfl rfl rfl K2 sizeLL H1.out ?_))
        try simp only [Exit.inBlock, Exit.then]
        exact ret_vk Tryz.underlying65 rfl sizeLL rfl rfl rfl (K2.row (vk 4 v)) ⟨v, rfl, (HL.out.rowOther _ _ (by omega)).wide (by omega), below_setRow HB.out (by omega) _⟩
      | succ g =>
        have hi4 : (i : Int) < 4 := by omega
        have hi0 : (0 : Int) ≤ (i : Int) := by omega
        have hi9 : i < 4 := by omega
        have iG := fun W => view_line f 2 i hi9 W
        have K7 := Blk.new wr 4 (lineF f 2 i) 24
        have hs := HB.out.size
        go_wp2_with ((with_reducible show wpList _ _ _ (Oper.mk _ (Op.load 24 _) _ _ _ _ :: _) _ _); refine loadR (K7) rfl rfl rfl ?_)
        refine (implBefore_any (lineF f 2 i) _).mono ?_
        rintro e w3 ⟨g3, c3, rfl, ho, hb⟩
        have hs2 := K3.lt
        have hgs : wr.heap.size + 1 ≤ g3 := by have := (ho.lt g3 rfl).1; simpa using this
        have K2 := (K2.alloc (.cells (mk 4 (lineF f 2 i)) 24)).below hb (by simp; have := K2.lt; omega)
        have K3 := (K3.alloc (.cells (mk 4 (lineF f 2 i)) 24)).below hb (by simp; omega)
        obtain ⟨_, _, e1, _, HC⟩ := KRow.of_list (lnR_all f 2 i) ho
        cases e1
        have HL := Lib.hid (((HL.out.alloc (.cells (mk 4 (lineF f 2 i)) 24)).below hb).snoc (c := c3) (show w.heap.size + 3 ≤ g3 by omega) HC)
        have HB : Hid (Below w.heap.size w w3) := (HB.out.alloc HB.out.size _).trans (hb.mono (by simp; omega))
        have q3 := K3.get (i := i) hi9
        have f3 := K3.free i
        have hn : (rbR (lineF f 2 i)).length = (lnR f 2 i).length := rfl
        rw [hn]
        clear hb ho HC hn iG K7
        generalize (lnR f 2 i).length = n at *
        go_wp2_with fail
        go_roundg g
        case rel => exact ⟨i + 1, _, by omega, by go_num, K2.setOther _ _ (by dsimp only; omega), K3.set hi9 _, HL.out.setOther _ _ (by dsimp only; omega), HB.out.setCell (by dsimp only; omega) _⟩
        case measure => omega
theorem field_3 (w : World) : (Instr.field 60 (.agg #[.func (.func 58) #[] #[], .func (.func 59) #[] #[]]) 0).run Tryz.prog w = .ok (.func (.func 58) #[] #[]) w := by kernel_rfl
set_option maxHeartbeats 2000000 in
set_option maxRecDepth 20000 in
theorem linesBefore_3 (f : Nat → Int) (w : World) (hV : Vd f) :
    Calls Tryz.prog 31 #[.agg (mk 16 f), .int .i64 3] w fun e w' => ∃ v, e = .returned (.agg (vk 4 v)) ∧ LinesB w' w.heap.size f 3 4 v ∧ Below w.heap.size w w' := by
  have zl := zeroL
  have z4 := zero4
  have K1 := ((Blk.new w 16 f 27).alloc (.cells (vk 4 fun _ => .slice none 0 0) 65)).alloc (.cells (vk 4 fun _ => .slice none 0 0) 65)
  have K2 := (Oth.new (w.alloc (.cells (mk 16 f) 27)) (vk 4 fun _ => .slice none 0 0) 65).alloc (.cells (vk 4 fun _ => .slice none 0 0) 65)
  have K3 := Oth.new ((w.alloc (.cells (mk 16 f) 27)).alloc (.cells (vk 4 fun _ => .slice none 0 0) 65)) (vk 4 fun _ => .slice none 0 0) 65
  have HB := Lib.hid ((((Below.refl w.heap.size w).alloc (Nat.le_refl _) (.cells (mk 16 f) 27)).alloc (by simp) (.cells (vk 4 fun _ => .slice none 0 0) 65)).alloc (by simp; omega) (.cells (vk 4 fun _ => .slice none 0 0) 65))
  simp only [World.size_alloc] at K2 K3
  have HV := Lib.hid hV
  clear hV
  go_enter Tryz.func31, Tryz.ntmps31
  go_wp2_with ((with_reducible show wpList _ _ _ (Oper.mk _ (Op.store 65 _ _) _ _ _ _ :: _) _ _); refine wpl_store_vk rfl _ _ _ rfl rfl rfl K3 sizeLL (by simp [vk, Value.oneCell']) ?_)
  have K1 := K1.rowOther (w.heap.size + 1 + 1) (vk 4 fun _ => .slice none 0 0) (by omega)
  have K2 := K2.rowOther (w.heap.size + 1 + 1) (vk 4 fun _ => .slice none 0 0) (by omega)
  have K3 := K3.row (vk 4 fun _ => .slice none 0 0)
  have HB := Lib.hid (below_setRow HB.out (show w.heap.size ≤ w.heap.size + 1 + 1 by omega) (vk 4 fun _ => .slice none 0 0))
  generalize World.setRow _ (w.heap.size + 1 + 1) (vk 4 fun _ => .slice none 0 0) = w1 at *
  have a0 := fun (W : World) (h : Blk W w.heap.size 16 f 27) => h.cell (i := 0) (by omega)
  have a1 := fun (W : World) (h : Blk W w.heap.size 16 f 27) => h.cell (i := 1) (by omega)
  have a2 := fun (W : World) (h : Blk W w.heap.size 16 f 27) => h.cell (i := 2) (by omega)
  have a3 := fun (W : World) (h : Blk W w.heap.size 16 f 27) => h.cell (i := 3) (by omega)
  have a4 := fun (W : World) (h : Blk W w.heap.size 16 f 27) => h.cell (i := 4) (by omega)
  have a5 := fun (W : World) (h : Blk W w.heap.size 16 f 27) => h.cell (i := 5) (by omega)
  have a6 := fun (W : World) (h : Blk W w.heap.size 16 f 27) => h.cell (i := 6) (by omega)
  have a7 := fun (W : World) (h : Blk W w.heap.size 16 f 27) => h.cell (i := 7) (by omega)
  have a8 := fun (W : World) (h : Blk W w.heap.size 16 f 27) => h.cell (i := 8) (by omega)
  have a9 := fun (W : World) (h : Blk W w.heap.size 16 f 27) => h.cell (i := 9) (by omega)
  have a10 := fun (W : World) (h : Blk W w.heap.size 16 f 27) => h.cell (i := 10) (by omega)
  have a11 := fun (W : World) (h : Blk W w.heap.size 16 f 27) => h.cell (i := 11) (by omega)
  have a12 := fun (W : World) (h : Blk W w.heap.size 16 f 27) => h.cell (i := 12) (by omega)
  have a13 := fun (W : World) (h : Blk W w.heap.size 16 f 27) => h.cell (i := 13) (by omega)
  have a14 := fun (W : World) (h : Blk W w.heap.size 16 f 27) => h.cell (i := 14) (by omega)
  have a15 := fun (W : World) (h : Blk W w.heap.size 16 f 27) => h.cell (i := 15) (by omega)
  have ae : (#[.int .i64 (f 0), .int .i64 (f 1), .int .i64 (f 2), .int .i64 (f 3), .int .i64 (f 4), .int .i64 (f 5), .int .i64 (f 6), .int .i64 (f 7), .int .i64 (f 8), .int .i64 (f 9), .int .i64 (f 10), .int .i64 (f 11), .int .i64 (f 12), .int .i64 (f 13), .int .i64 (f 14), .int .i64 (f 15)] : Array Value) = mk 16 f := rfl
  have iV := idxV3
  have iF := field_3
  have iB := fieldB0
  go_region_held3 (fun w' => Blk w' w.heap.size 16 f 27 ∧ Oth w' (w.heap.size + 1) (vk 4 fun _ => .slice none 0 0) 65 ∧ Oth w' (w.heap.size + 1 + 1) (vk 4 fun _ => .slice none 0 0) 65 ∧ Below w.heap.size w w') (first | exact ⟨K1.drew, K2.drew, K3.drew, HB.out.drew⟩ | assumption) (first | (go_at_call 29; refine (views_any _).mono ?_; rintro e w6 ⟨rfl, hb6⟩; have J := heldV_step (by assumption) hb6; clear hb6) | (go_at_call 58; refine (there_3 f _).mono ?_; rintro e w7 ⟨rfl, hb7⟩; have J2 := heldV_step (by assumption) hb7; clear hb7) | fail)
  all_goals
    clear a0 a1 a2 a3 a4 a5 a6 a7 a8 a9 a10 a11 a12 a13 a14 a15 ae iV iF iB K1 K2 K3 HB
    have S1 : Blk w7 w.heap.size 16 f 27 ∧ Oth w7 (w.heap.size + 1) (vk 4 fun _ => .slice none 0 0) 65 ∧ Oth w7 (w.heap.size + 1 + 1) (vk 4 fun _ => .slice none 0 0) 65 ∧ Below w.heap.size w w7 := by assumption
    obtain ⟨K1, K2, K3, hb⟩ := S1
    have HB := Lib.hid hb
    clear hb
    go_wp2_with fail
    go_loopg [16] 4 (fun gk s16 wr => ∃ (i : Nat) (v : Nat → Value), i + gk = 4 ∧ s16 = .int .i64 i ∧ Oth wr (w.heap.size + 1) (vk 4 fun _ => .slice none 0 0) 65 ∧ Oth wr (w.heap.size + 1 + 1) (vk 4 v) 65 ∧ Hid (LinesB wr (w.heap.size + 3) f 3 i v) ∧ Hid (Below w.heap.size w wr))
    case atStart => exact ⟨0, _, by omega, rfl, K2, K3, lists_zero _ _ _ _ _, HB⟩
    case round =>
      clear K1 K2 K3 HB
      obtain ⟨i, v, hig, rfl, K2, K3, HL, HB⟩ := hrel
      cases gk with
      | zero =>
        have hi : ¬ ((i : Int) < 4) := by omega
        obtain rfl : i = 4 := by omega
        have H1 := Lib.hid (listsOne HL.out)
        go_wp2_with (first | ((with_reducible show wpList _ _ _ (Oper.mk _ (Op.load 65 _) _ _ _ _ :: _) _ _); refine wpl_load_vk rfl _ _ rfl rfl K3 Tryz.underlying65 rfl sizeLL ?_) | ((with_reducible show wpList _ _ _ (Oper.mk _ (Op.store 65 _ _) _ _ _ _ :: _) _ _); refine wpl_store_vk rfl _ _ _ rfl rfl rfl K2 sizeLL H1.out ?_))
        try simp only [Exit.inBlock, Exit.then]
        exact ret_vk Tryz.underlying65 rfl sizeLL rfl rfl rfl (K2.row (vk 4 v)) ⟨v, rfl, (HL.out.rowOther _ _ (by omega)).wide (by omega), below_setRow HB.out (by omega) _⟩
      | succ g =>
        have hi4 : (i : Int) < 4 := by omega
        have hi0 : (0 : Int) ≤ (i : Int) := by omega
        have hi9 : i < 4 := by omega
        have iG := fun W => view_line f 3 i hi9 W
        have K7 := Blk.new wr 4 (lineF f 3 i) 24
        have hs := HB.out.size
        go_wp2_with ((with_reducible show wpList _ _ _ (Oper.mk _ (Op.load 24 _) _ _ _ _ :: _) _ _); refine loadR (K7) rfl rfl rfl ?_)
        refine (implBefore_any (lineF f 3 i) _).mono ?_
        rintro e w3 ⟨g3, c3, rfl, ho, hb⟩
        have hs2 := K3.lt
        have hgs : wr.heap.size + 1 ≤ g3 := by have := (ho.lt g3 rfl).1; simpa using this
        have K2 := (K2.alloc (.cells (mk 4 (lineF f 3 i)) 24)).below hb (by simp; have := K2.lt; omega)
        have K3 := (K3.alloc (.cells (mk 4 (lineF f 3 i)) 24)).below hb (by simp; omega)
        obtain ⟨_, _, e1, _, HC⟩ := KRow.of_list (lnR_all f 3 i) ho
        cases e1
        have HL := Lib.hid (((HL.out.alloc (.cells (mk 4 (lineF f 3 i)) 24)).below hb).snoc (c := c3) (show w.heap.size + 3 ≤ g3 by omega) HC)
        have HB : Hid (Below w.heap.size w w3) := (HB.out.alloc HB.out.size _).trans (hb.mono (by simp; omega))
        have q3 := K3.get (i := i) hi9
        have f3 := K3.free i
        have hn : (rbR (lineF f 3 i)).length = (lnR f 3 i).length := rfl
        rw [hn]
        clear hb ho HC hn iG K7
        generalize (lnR f 3 i).length = n at *
        go_wp2_with fail
        go_roundg g
        case rel => exact ⟨i + 1, _, by omega, by go_num, K2.setOther _ _ (by dsimp only; omega), K3.set hi9 _, HL.out.setOther _ _ (by dsimp only; omega), HB.out.setCell (by dsimp only; omega) _⟩
        case measure => omega
theorem linesBefore_any (f : Nat → Int) (d : Nat) (w : World) (hV : Vd f) (hd : d < 4) :
    Calls Tryz.prog 31 #[.agg (mk 16 f), .int .i64 (d : Int)] w fun e w' => ∃ v, e = .returned (.agg (vk 4 v)) ∧ LinesB w' w.heap.size f d 4 v ∧ Below w.heap.size w w' := by
  rcases side4 hd with rfl | rfl | rfl | rfl
  · exact linesBefore_0 f w hV
  · exact linesBefore_1 f w hV
  · exact linesBefore_2 f w hV
  · exact linesBefore_3 f w hV
end Go.Proofs.YtmcmpedmgibmkabGreat
