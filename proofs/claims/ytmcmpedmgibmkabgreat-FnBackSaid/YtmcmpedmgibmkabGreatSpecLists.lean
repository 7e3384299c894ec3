/-
  The contract of the reference's l6Lists: the rows before the four lines of a side. The conditions: all numbers are those of cells, the direction is one.
-/
import Derived.Test.YtmcmpedmgibmkabGreatPreKit
import Derived.Test.YtmcmpedmgibmkabGreatNumbers
import Derived.Test.YtmcmpedmgibmkabGreatSpread4
namespace Go.Proofs.YtmcmpedmgibmkabGreat
open Go.RowKit Plain
attribute [local go_sem] store_new
set_option linter.unusedVariables false
set_option linter.unusedSimpArgs false

theorem side4 {d : Nat} (h : d < 4) : d = 0 ∨ d = 1 ∨ d = 2 ∨ d = 3 := by omega
theorem l2Numbers_nat (f : Nat → Int) (d i : Nat) (w : World) (hd : d < 4) (hi : i < 4) :
    Calls Tryz.prog 92 #[.agg (mk 16 f), .int .i64 (d : Int), .int .i64 (i : Int)] w fun e w' => e = .returned (.agg (mk 4 (lineF f d i))) ∧ Below w.heap.size w w' := by
  rcases side4 hd with rfl | rfl | rfl | rfl
  · exact l2Numbers_0 f i w hi
  · exact l2Numbers_1 f i w hi
  · exact l2Numbers_2 f i w hi
  · exact l2Numbers_3 f i w hi
theorem zeroL : (#[.slice none 0 0, .slice none 0 0, .slice none 0 0, .slice none 0 0] : Array Value) = vk 4 (fun _ => .slice none 0 0) := rfl
theorem sizeLL : (Tryz.prog.info? 65).map (·.size) = some 4 := by kernel_rfl
theorem sizeLS : (Tryz.prog.info? 64).map (·.size) = some 1 := by kernel_rfl
theorem CAt.setOther {w : World} {g n : Nat} {h : Nat → Int} (r : CAt w g n h) (p : Addr) (x : Value) (hp : g ≠ p.block) : CAt (w.setCell p x) g n h := by
  have e := heap_setCell_other w p g x hp
  refine ⟨by simpa using r.1, fun j hj => ?_⟩
  rw [← r.2 j hj]
  unfold World.cell?
  simp only [e]
theorem CAt.rowOther {w : World} {g n : Nat} {h : Nat → Int} (r : CAt w g n h) (c : Nat) (cs : Array Value) (hc : g ≠ c) : CAt (w.setRow c cs) g n h := by
  have e := setRow_other w c g cs hc
  refine ⟨by simpa using r.1, fun j hj => ?_⟩
  rw [← r.2 j hj]
  unfold World.cell?
  simp only [e]
theorem LinesB.setOther {w : World} {base n : Nat} {f : Nat → Int} {d : Nat} {v : Nat → Value} (h : LinesB w base f d n v) (p : Addr) (x : Value) (hp : p.block < base) : LinesB (w.setCell p x) base f d n v := fun i hi => by
  obtain ⟨g, c, h1, h2, h3⟩ := h i hi
  exact ⟨g, c, h1, h2, h3.setOther p x (by omega)⟩
theorem LinesB.rowOther {w : World} {base n : Nat} {f : Nat → Int} {d : Nat} {v : Nat → Value} (h : LinesB w base f d n v) (c : Nat) (cs : Array Value) (hc : c < base) : LinesB (w.setRow c cs) base f d n v := fun i hi => by
  obtain ⟨g, k, h1, h2, h3⟩ := h i hi
  exact ⟨g, k, h1, h2, h3.rowOther c cs (by omega)⟩
theorem LinesB.snoc {w : World} {base i : Nat} {f : Nat → Int} {d : Nat} {v : Nat → Value} (h : LinesB w base f d i v) {g c : Nat} (hg : base ≤ g) (hc : CAt w g ((lnR f d i).length * 4) (flatF (lnR f d i))) : LinesB w base f d (i + 1) (updV v i (.slice (some ⟨g, 0, none⟩) (lnR f d i).length c)) := fun k hk => by
  rcases (by omega : k < i ∨ k = i) with q | rfl
  · rw [updV_other _ _ (by omega)]; exact h k q
  · exact ⟨g, c, updV_same _ _ _, hg, hc⟩
theorem lists_zero (w : World) (base : Nat) (f : Nat → Int) (d : Nat) (v : Nat → Value) : LinesB w base f d 0 v := fun i hi => by omega
theorem listsOne {w : World} {base n : Nat} {f : Nat → Int} {d : Nat} {v : Nat → Value} (h : LinesB w base f d n v) : (vk n v).all (·.oneCell') = true := by
  rw [Array.all_eq_true]
  intro i hi
  rw [vk_size] at hi
  obtain ⟨g, c, h1, _⟩ := h i hi
  have e : (vk n v)[i]? = some (v i) := vk_get v hi
  have e2 := Array.getElem?_eq_getElem (xs := vk n v) (i := i) (by rw [vk_size]; exact hi)
  rw [e] at e2
  rw [← Option.some.inj e2, h1]
  simp [Value.oneCell']

set_option maxHeartbeats 1000000 in
set_option maxRecDepth 20000 in
theorem l6Lists_any (f : Nat → Int) (d : Nat) (w : World) (hV : Vd f) (hd : d < 4) :
    Calls Tryz.prog 63 #[.agg (mk 16 f), .int .i64 (d : Int)] w fun e w' => ∃ v, e = .returned (.agg (vk 4 v)) ∧ LinesB w' w.heap.size f d 4 v ∧ Below w.heap.size w w' := by
  have zl := zeroL
  have K1 := ((Blk.new w 16 f 27).alloc (.cells (vk 4 fun _ => .slice none 0 0) 65)).alloc (.cells (vk 4 fun _ => .slice none 0 0) 65)
  have K2 := (Oth.new (w.alloc (.cells (mk 16 f) 27)) (vk 4 fun _ => .slice none 0 0) 65).alloc (.cells (vk 4 fun _ => .slice none 0 0) 65)
  have K3 := Oth.new ((w.alloc (.cells (mk 16 f) 27)).alloc (.cells (vk 4 fun _ => .slice none 0 0) 65)) (vk 4 fun _ => .slice none 0 0) 65
  have HB := Lib.hid ((((Below.refl w.heap.size w).alloc (Nat.le_refl _) (.cells (mk 16 f) 27)).alloc (by simp) (.cells (vk 4 fun _ => .slice none 0 0) 65)).alloc (by simp; omega) (.cells (vk 4 fun _ => .slice none 0 0) 65))
  have hz : (((w.alloc (.cells (mk 16 f) 27)).alloc (.cells (vk 4 fun _ => .slice none 0 0) 65)).alloc (.cells (vk 4 fun _ => .slice none 0 0) 65)).heap.size = w.heap.size + 3 := by simp
  simp only [World.size_alloc] at K2 K3
  have HV := Lib.hid hV
  have HD := Lib.hid hd
  clear hV hd
  go_enter Tryz.func63, Tryz.ntmps63
  go_wp2_with ((with_reducible show wpList _ _ _ (Oper.mk _ (Op.store 65 _ _) _ _ _ _ :: _) _ _); refine wpl_store_vk rfl _ _ _ rfl rfl rfl K3 sizeLL (by simp [vk, Value.oneCell']) ?_)
  have K1 := K1.rowOther (w.heap.size + 1 + 1) (vk 4 fun _ => .slice none 0 0) (by omega)
  have K2 := K2.rowOther (w.heap.size + 1 + 1) (vk 4 fun _ => .slice none 0 0) (by omega)
  have K3 := K3.row (vk 4 fun _ => .slice none 0 0)
  have HB := Lib.hid (below_setRow HB.out (show w.heap.size ≤ w.heap.size + 1 + 1 by omega) (vk 4 fun _ => .slice none 0 0))
  generalize World.setRow _ (w.heap.size + 1 + 1) (vk 4 fun _ => .slice none 0 0) = w1 at *
  go_loopg [6] 4 (fun gk s6 wr => ∃ (i : Nat) (v : Nat → Value), i + gk = 4 ∧ s6 = .int .i64 i ∧ Blk wr w.heap.size 16 f 27 ∧ Oth wr (w.heap.size + 1) (vk 4 fun _ => .slice none 0 0) 65 ∧ Oth wr (w.heap.size + 1 + 1) (vk 4 v) 65 ∧ Hid (LinesB wr (w.heap.size + 3) f d i v) ∧ Hid (Below w.heap.size w wr))
  case atStart => exact ⟨0, _, by omega, rfl, K1, K2, K3, lists_zero _ _ _ _ _, HB⟩
  case round =>
    clear K1 K2 K3 HB
    obtain ⟨i, v, hig, rfl, K1, K2, K3, HL, HB⟩ := hrel
    cases gk with
    | zero =>
      have hi : ¬ ((i : Int) < 4) := by omega
      obtain rfl : i = 4 := by omega
      have H1 := Lib.hid (listsOne HL.out)
      go_wp2_with (first | ((with_reducible show wpList _ _ _ (Oper.mk _ (Op.load 65 _) _ _ _ _ :: _) _ _); refine wpl_load_vk rfl _ _ rfl rfl K3 Tryz.underlying65 rfl sizeLL ?_) | ((with_reducible show wpList _ _ _ (Oper.mk _ (Op.store 65 _ _) _ _ _ _ :: _) _ _); refine wpl_store_vk rfl _ _ _ rfl rfl rfl K2 sizeLL H1.out ?_))
      try simp only [Exit.inBlock, Exit.then]
      exact ret_vk Tryz.underlying65 rfl sizeLL rfl rfl rfl (K2.row (vk 4 v)) ⟨v, rfl, (HL.out.rowOther _ _ (by omega)).wide (by omega), below_setRow HB.out (by omega) _⟩
    | succ g =>
      have hi4 : (i : Int) < 4 := by omega
      have hi0 : (0 : Int) ≤ (i : Int) := by omega
      have hi9 : i < 4 := by omega
      go_wp2_with ((with_reducible show wpList _ _ _ (Oper.mk _ (Op.load 27 _) _ _ _ _ :: _) _ _); refine loadB (K1) rfl rfl rfl ?_)
      refine (l2Numbers_nat f d i _ HD.out hi9).mono ?_
      rintro e w2 ⟨rfl, hb⟩
      have hs := HB.out.size
      have hs3 := K3.lt
      have K1 := K1.below hb K1.lt
      have K2 := K2.below hb K2.lt
      have K3 := K3.below hb K3.lt
      have HL : Hid (LinesB w2 (w.heap.size + 3) f d i v) := HL.out.below hb
      have HB : Hid (Below w.heap.size w w2) := HB.out.trans (hb.mono HB.out.size)
      clear hb hs hs3
      go_wp2_with fail
      refine (l4Before_any _ _ (lineF_vd HV.out d hi9)).mono ?_
      rintro e w3 ⟨g3, c3, rfl, ho, hb⟩
      have hs2 := K3.lt
      have hgs : w2.heap.size ≤ g3 := (ho.lt g3 rfl).1
      have HE : Hid (befS (lineF f d i) 16 = lnR f d i) := (rbR_yes (lineF_vd HV.out d hi9)).symm
      rw [HE.out] at ho ⊢
      obtain ⟨_, _, e1, _, HC⟩ := KRow.of_list (lnR_all f d i) ho
      cases e1
      have K1 := K1.below hb K1.lt
      have K2 := K2.below hb K2.lt
      have K3 := K3.below hb K3.lt
      have HL := Lib.hid ((HL.out.below hb).snoc (c := c3) (show w.heap.size + 3 ≤ g3 by omega) HC)
      have HB : Hid (Below w.heap.size w w3) := HB.out.trans (hb.mono HB.out.size)
      have q3 := K3.get (i := i) hi9
      have f3 := K3.free i
      clear hb ho HC HE
      generalize (lnR f d i).length = n at *
      go_wp2_with fail
      go_roundg g
      case rel => exact ⟨i + 1, _, by omega, by go_num, K1.setOther _ _ (by dsimp only; omega), K2.setOther _ _ (by dsimp only; omega), K3.set hi9 _, HL.out.setOther _ _ (by dsimp only; omega), HB.out.setCell (by dsimp only; omega) _⟩
      case measure => omega
end Go.Proofs.YtmcmpedmgibmkabGreat
