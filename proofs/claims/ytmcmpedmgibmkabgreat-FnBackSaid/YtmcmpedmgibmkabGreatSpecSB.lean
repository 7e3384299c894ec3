/-
  Several texts in one:
  The contract of the reference's l6All: all boards of a row before each line. The conditions: all numbers are those of cells, the direction is one.
  The contract of l2Before: whether a board comes before another one.
  The contract of the reference's l6Sorted: boards put to their places, one after the other, but for one. The conditions: none is there twice, and they are at most 50625.
  The contract of BoardsBefore in the reference, for every board and every direction.
-/
import Derived.Test.YtmcmpedmgibmkabGreatSpecWith
import Derived.Test.YtmcmpedmgibmkabGreatImplBoardsOf
import Derived.Test.YtmcmpedmgibmkabGreatLessDr
import Derived.Test.YtmcmpedmgibmkabGreatBaseA
import Derived.Test.YtmcmpedmgibmkabGreatPlainA
import Derived.Deep.QuietTactic
import Derived.BigQuiet
import Derived.Deep.RegionHeld3
import Derived.Test.YtmcmpedmgibmkabGreatBackA
namespace Go.Proofs.YtmcmpedmgibmkabGreat
open Go.RowKit Plain
attribute [local go_sem] store_new
set_option linter.unusedVariables false
set_option linter.unusedSimpArgs false

theorem execLS {o : Oper} {ev : Operand → Value} {w : World} {b j : Nat} {v : Value} {x : Operand} (hc : w.cell? ⟨b, j, none⟩ = some v) (ho : o.op = .load 64 x) (hx : ev x = .pointer (some ⟨b, j, none⟩)) :
    (execOp ev o).run Tryz.prog w = .ok (.value v) w := by
  unfold execOp
  simp only [ho, hx]
  go_simp
theorem wp_buildBd {w : World} {o : Oper} {a : Act} {K : Act → World → Prop} {Q : Exit → Act → World → Prop} (d : Tmp) (x : Operand) (ho : o.op = .buildSlice 30 1 #[(0, x)]) (hd : o.dst = some d) {f : Nat → Int} (hx : a.eval x = .agg (mk 16 f))
    (h : K (a.put (some d) (.slice (some ⟨w.heap.size, 0, none⟩) 1 1)) (w.alloc (.cells (mk 16 f) 27))) : o.wp Tryz.prog a w K Q := by
  rw [← hd] at h
  exact wp_buildB x ho hx h
/-- The lists of rows before the lines, none of which lies in a block. -/
def LinesN (w : World) (b : Nat) (f : Nat → Int) (d : Nat) (v : Nat → Value) : Prop := ∀ i, i < 4 → ∃ g c, v i = .slice (some ⟨g, 0, none⟩) (lnR f d i).length c ∧ g ≠ b ∧ CAt w g ((lnR f d i).length * 4) (flatF (lnR f d i))
section
variable {w w' : World} {b base : Nat} {f : Nat → Int} {d : Nat} {v : Nat → Value}
theorem LinesN.below (h : LinesN w b f d v) (hb : Below w.heap.size w w') : LinesN w' b f d v := fun i hi => by
  obtain ⟨g, c, h1, h2, h3⟩ := h i hi; exact ⟨g, c, h1, h2, h3.below hb⟩
theorem LinesN.alloc (h : LinesN w b f d v) (o : Obj) : LinesN (w.alloc o) b f d v := h.below ((Below.refl _ w).alloc (Nat.le_refl _) o)
theorem LinesN.row (h : LinesN w b f d v) (cs : Array Value) : LinesN (w.setRow b cs) b f d v := fun i hi => by
  obtain ⟨g, c, h1, h2, h3⟩ := h i hi; exact ⟨g, c, h1, h2, h3.rowOther b cs h2⟩
theorem LinesN.low {B : Nat} (h : LinesN w b f d v) (hb : Below B w w') (hB : ∀ i, i < 4 → ∀ g n c, v i = .slice (some ⟨g, 0, none⟩) n c → g < B) : LinesN w' b f d v := fun i hi => by
  obtain ⟨g, c, h1, h2, h3⟩ := h i hi; exact ⟨g, c, h1, h2, h3.low hb (hB i hi g _ c h1)⟩
theorem linesN_low (h : LinesB w base f d 4 v) (hb : b < base) : LinesN w b f d v := fun i hi => by
  obtain ⟨g, c, h1, h2, h3⟩ := h i hi; exact ⟨g, c, h1, by omega, h3⟩
theorem linesN_new (h : LinesB w base f d 4 v) (o : Obj) : LinesN (w.alloc o) w.heap.size f d v := fun i hi => by
  obtain ⟨g, c, h1, h2, h3⟩ := h i hi; exact ⟨g, c, h1, by have := h3.1; omega, h3.alloc o⟩
end
theorem OwnsL.rowO {t u : TypeId} {m b c : Nat} {w : World} {v : Value} {L : List (List Int)} {ds : Array Value} (h : OwnsL t m w b v L) (k : Oth w c ds u) (cs : Array Value) (hne : v.ownBlock ≠ some c) : OwnsL t m (w.setRow c cs) b v L :=
  World.ownsRow.kept h (⟨rfl, rfl, rfl, by simp [World.setRow], fun j hj hne => setRow_other w c j cs (fun e => hne (by rw [e]))⟩ : w.grownBy (w.setRow c cs) (some c)) (Or.inr hne)
theorem snoc_walk0 {m : Nat} (L : List (List Int)) (f : Nat → Int) : L.flatten.map (Value.int .i64) ++ (mk m f).toList = (L ++ [cl m f]).flatten.map (Value.int .i64) := by
  rw [List.flatten_append, List.map_append, List.flatten_singleton, mk_cl]

set_option maxHeartbeats 4000000 in
set_option maxRecDepth 20000 in
theorem l6All_any (f : Nat → Int) (d : Nat) (w : World) (hV : Vd f) (hd : d < 4) :
    Calls Tryz.prog 38 #[.agg (mk 16 f), .int .i64 (d : Int)] w fun e w' => ∃ g cap, e = .returned (.slice (some ⟨g, 0, none⟩) (spS f d 4).length cap) ∧
      OwnsL 27 16 w' w.heap.size (.slice (some ⟨g, 0, none⟩) (spS f d 4).length cap) (spS f d 4) ∧ Below w.heap.size w w' := by
  obtain ⟨i0, hi, hz0, hz1, hz2⟩ := info_parts infoB
  have zl := zeroL
  have K1 := Blk.new w 16 f 27
  have HB := Lib.hid ((Below.refl w.heap.size w).alloc (Nat.le_refl _) (.cells (mk 16 f) 27))
  have HSL := Lib.hid (fun i => spS_len f d i)
  have HCB := Lib.hid (fun i (hi : i ≤ 4) => cntP_bd f d hi)
  have HV := Lib.hid hV
  have HD := Lib.hid hd
  clear hV hd
  go_enter Tryz.func38, Tryz.ntmps38
  go_upto_region 1 with (fail)
  generalize w.alloc (.cells (mk 16 f) 27) = w1 at *
  go_cut [5, 6] from 11 to 15 (fun s5 s6 wc => ∃ (b5 g6 : Nat) (v : Nat → Value), s5 = .pointer (some ⟨b5, 0, none⟩) ∧ s6 = .slice (some ⟨g6, 0, none⟩) 1 1 ∧ Blk wc w.heap.size 16 f 27 ∧ Oth wc b5 (vk 4 v) 65 ∧ LinesN wc b5 f d v ∧ OwnsL 27 16 wc (w.heap.size + 1) (.slice (some ⟨g6, 0, none⟩) 1 1) [cl 16 f] ∧ Below w.heap.size w wc ∧ w.heap.size < b5)
  case first =>
    refine wp_region_held_drew (S := fun W => Blk W w.heap.size 16 f 27) (by kernel_rfl) (K1.drew) (fun hHeld => ?_)
    have K1 : Blk w1.drew w.heap.size 16 f 27 := K1.drew
    have HB : Hid (Below w.heap.size w w1.drew) := HB.out.drew
    generalize w1.drew = x0 at *
    refine wpAnyH_take (i := 0) (oi := { dst := some 11, op := _, type := _, pos := _, after := _, guard := _ }) (v := .agg (mk 16 f)) rfl (by kernel_rfl) (by kernel_rfl) (by kernel_rfl) (fun _ _ _ h => h) (Or.inl ⟨by rfl, fun _ q => execB q rfl rfl⟩) (by assumption) ?_
    try simp only [Act.put, List.setIfInBounds_toArray, List.set_cons_zero, List.set_cons_succ]
    refine wpAnyH_take (i := 1) (oi := { dst := some 12, op := _, type := _, pos := _, after := _, guard := _ }) (v := .int .i64 (d : Int)) rfl (by kernel_rfl) (by kernel_rfl) (by kernel_rfl) (fun _ _ _ h => h) (Or.inl ⟨by rfl, by intro w hSw; clear hSw; go_simp; (try with_reducible rfl)⟩) (by assumption) ?_
    try simp only [Act.put, List.setIfInBounds_toArray, List.set_cons_zero, List.set_cons_succ]
    refine wpAnyH_take (i := 3) (oi := { dst := some 14, op := _, type := _, pos := _, after := _, guard := _ }) (v := .agg (mk 16 f)) rfl (by kernel_rfl) (by kernel_rfl) (by kernel_rfl) (fun _ _ _ h => h) (Or.inl ⟨by rfl, fun _ q => execB q rfl rfl⟩) (by assumption) ?_
    try simp only [Act.put, List.setIfInBounds_toArray, List.set_cons_zero, List.set_cons_succ]
    refine wpAnyH_ready (rs := [2, 4, 5]) (by kernel_rfl) (by simp) ?_
    refine AllReadyH.cons rfl (fun K hK => ?_) ?_
    · go_simp
      refine (l6Lists_any f d _ HV.out HD.out).mono ?_
      rintro e x1 ⟨v, rfl, hl, hb⟩
      have H1 := Lib.hid (listsOne hl)
      have hkx := K1.lt
      have K1 := K1.below hb K1.lt
      have HB : Hid (Below w.heap.size w x1) := HB.out.trans (hb.mono HB.out.size)
      have HT : Hid (LinesB x1 (w.heap.size + 1) f d 4 v) := hl.wide (by omega)
      clear hl hb hHeld hkx
      go_wp2_with fail
      refine hK.out _ _ K1 (fun hHeld => ?_)
      clear hK K
      try simp only [Act.put, List.setIfInBounds_toArray, List.set_cons_zero, List.set_cons_succ]
      refine wpAnyH_ready (rs := [4, 5]) (by kernel_rfl) (by simp) ?_
      refine AllReadyH.cons rfl (fun K hK => ?_) ?_
      · rw [if_pos (by rfl)]
        refine wp_buildBd 15 _ rfl rfl (f := f) rfl ?_
        have hkx := K1.lt
        have HO : Hid (OwnsL 27 16 (x1.alloc (.cells (mk 16 f) 27)) (w.heap.size + 1) (.slice (some ⟨x1.heap.size, 0, none⟩) 1 1) [cl 16 f]) := OwnsL.one x1 f (by omega) (by omega)
        have K1 := K1.alloc (.cells (mk 16 f) 27)
        have HB : Hid (Below w.heap.size w (x1.alloc (.cells (mk 16 f) 27))) := HB.out.alloc HB.out.size _
        have HT : Hid (LinesB (x1.alloc (.cells (mk 16 f) 27)) (w.heap.size + 1) f d 4 v) := HT.out.alloc _
        clear hHeld hkx
        generalize x1.alloc (.cells (mk 16 f) 27) = x2 at *
        generalize x1.heap.size = g6 at *
        refine hK.out _ _ K1 (fun hHeld => ?_)
        clear hK K
        try simp only [Act.put, List.setIfInBounds_toArray, List.set_cons_zero, List.set_cons_succ]
        refine wpAnyH_ready (rs := [5]) (by kernel_rfl) (by simp) ?_
        refine AllReadyH.cons rfl (fun K hK => ?_) AllReadyH.nil
        rw [if_pos (by rfl)]
        refine wp_allocL 5 rfl rfl ?_
        have hkx := K1.lt
        have H5W := Lib.hid hkx
        clear hkx
        have K5 := Oth.new x2 (vk 4 fun _ => .slice none 0 0) 65
        have H5X : Hid (x2.heap.size < (x2.alloc (.cells (vk 4 fun _ => .slice none 0 0) 65)).heap.size) := by show _ < _; simp
        have HNE : Hid (g6 ≠ x2.heap.size) := by have : g6 < x2.heap.size := (HO.out.lt g6 rfl).2; show _ ≠ _; omega
        have HO : Hid (OwnsL 27 16 (x2.alloc (.cells (vk 4 fun _ => .slice none 0 0) 65)) (w.heap.size + 1) (.slice (some ⟨g6, 0, none⟩) 1 1) [cl 16 f]) := HO.out.alloc _
        have HL : Hid (LinesN (x2.alloc (.cells (vk 4 fun _ => .slice none 0 0) 65)) x2.heap.size f d v) := linesN_new HT.out _
        have K1 := K1.alloc (.cells (vk 4 fun _ => .slice none 0 0) 65)
        have HB : Hid (Below w.heap.size w (x2.alloc (.cells (vk 4 fun _ => .slice none 0 0) 65))) := HB.out.alloc HB.out.size _
        clear hHeld
        generalize x2.alloc (.cells (vk 4 fun _ => .slice none 0 0) 65) = x3 at *
        generalize x2.heap.size = b5 at *
        refine hK.out _ _ K1 (fun hHeld => ?_)
        clear hK K
        try simp only [Act.put, List.setIfInBounds_toArray, List.set_cons_zero, List.set_cons_succ]
        refine wpAnyH_ready (rs := [6]) (by kernel_rfl) (by simp) ?_
        refine AllReadyH.cons rfl (fun K hK => ?_) AllReadyH.nil
        rw [if_pos (by rfl)]
        refine wp_store_vk _ _ _ rfl rfl rfl K5 sizeLL H1.out rfl ?_
        have hw5 : w.heap.size < b5 := H5W.out
        have K1 := K1.rowOther b5 (vk 4 v) (by omega)
        have HB : Hid (Below w.heap.size w (x3.setRow b5 (vk 4 v))) := below_setRow HB.out (by omega) _
        have HO : Hid (OwnsL 27 16 (x3.setRow b5 (vk 4 v)) (w.heap.size + 1) (.slice (some ⟨g6, 0, none⟩) 1 1) [cl 16 f]) := OwnsL.rowO HO.out K5 _ (by simp only [Value.ownBlock]; intro e; cases e; exact HNE.out rfl)
        have HL : Hid (LinesN (x3.setRow b5 (vk 4 v)) b5 f d v) := HL.out.row _
        have K5 := K5.row (vk 4 v)
        clear hHeld hw5
        generalize x3.setRow b5 (vk 4 v) = x4 at *
        refine hK.out _ _ K1 (fun hHeld => ?_)
        clear hK K
        try simp only [Act.put, List.setIfInBounds_toArray, List.set_cons_zero, List.set_cons_succ]
        refine wpAnyH_take (i := 7) (oi := { dst := some 6, op := _, type := _, pos := _, after := _, guard := _ }) (v := .slice (some ⟨g6, 0, none⟩) 1 1) rfl (by kernel_rfl) (by kernel_rfl) (by kernel_rfl) (fun _ _ _ h => h) (Or.inl ⟨by rfl, by intro w hSw; clear hSw; go_simp; (try with_reducible rfl)⟩) (by assumption) ?_
        try simp only [Act.put, List.setIfInBounds_toArray, List.set_cons_zero, List.set_cons_succ]
        refine wpAnyH_done (by kernel_rfl) ?_ _
        clear hHeld
        go_wp2_with fail
        go_meet
        case rel => exact ⟨b5, g6, v, rfl, rfl, K1, K5, HL.out, HO.out, HB.out, H5W.out⟩
      refine AllReadyH.cons rfl (fun K hK => ?_) AllReadyH.nil
      rw [if_pos (by rfl)]
      refine wp_allocL 5 rfl rfl ?_
      have hkx := K1.lt
      have H5W := Lib.hid hkx
      clear hkx
      have K5 := Oth.new x1 (vk 4 fun _ => .slice none 0 0) 65
      have H5X : Hid (x1.heap.size < (x1.alloc (.cells (vk 4 fun _ => .slice none 0 0) 65)).heap.size) := by show _ < _; simp
      have HL : Hid (LinesN (x1.alloc (.cells (vk 4 fun _ => .slice none 0 0) 65)) x1.heap.size f d v) := linesN_new HT.out _
      have K1 := K1.alloc (.cells (vk 4 fun _ => .slice none 0 0) 65)
      have HB : Hid (Below w.heap.size w (x1.alloc (.cells (vk 4 fun _ => .slice none 0 0) 65))) := HB.out.alloc HB.out.size _
      clear hHeld
      generalize x1.alloc (.cells (vk 4 fun _ => .slice none 0 0) 65) = x2 at *
      generalize x1.heap.size = b5 at *
      refine hK.out _ _ K1 (fun hHeld => ?_)
      clear hK K
      try simp only [Act.put, List.setIfInBounds_toArray, List.set_cons_zero, List.set_cons_succ]
      refine wpAnyH_ready (rs := [4, 6]) (by kernel_rfl) (by simp) ?_
      refine AllReadyH.cons rfl (fun K hK => ?_) ?_
      · rw [if_pos (by rfl)]
        refine wp_buildBd 15 _ rfl rfl (f := f) rfl ?_
        have hkx := K1.lt
        have HO : Hid (OwnsL 27 16 (x2.alloc (.cells (mk 16 f) 27)) (w.heap.size + 1) (.slice (some ⟨x2.heap.size, 0, none⟩) 1 1) [cl 16 f]) := OwnsL.one x2 f (by omega) (by omega)
        have HNE : Hid (x2.heap.size ≠ b5) := by have := K5.lt; show _ ≠ _; omega
        have K1 := K1.alloc (.cells (mk 16 f) 27)
        have HB : Hid (Below w.heap.size w (x2.alloc (.cells (mk 16 f) 27))) := HB.out.alloc HB.out.size _
        have K5 := K5.alloc (.cells (mk 16 f) 27)
        have H5Y : Hid (b5 < (x2.alloc (.cells (mk 16 f) 27)).heap.size) := K5.lt
        clear H5X
        have H5X := H5Y
        clear H5Y
        have HL : Hid (LinesN (x2.alloc (.cells (mk 16 f) 27)) b5 f d v) := HL.out.alloc _
        clear hHeld hkx
        generalize x2.alloc (.cells (mk 16 f) 27) = x3 at *
        generalize x2.heap.size = g6 at *
        refine hK.out _ _ K1 (fun hHeld => ?_)
        clear hK K
        try simp only [Act.put, List.setIfInBounds_toArray, List.set_cons_zero, List.set_cons_succ]
        refine wpAnyH_ready (rs := [6]) (by kernel_rfl) (by simp) ?_
        refine AllReadyH.cons rfl (fun K hK => ?_) AllReadyH.nil
        rw [if_pos (by rfl)]
        refine wp_store_vk _ _ _ rfl rfl rfl K5 sizeLL H1.out rfl ?_
        have hw5 : w.heap.size < b5 := H5W.out
        have K1 := K1.rowOther b5 (vk 4 v) (by omega)
        have HB : Hid (Below w.heap.size w (x3.setRow b5 (vk 4 v))) := below_setRow HB.out (by omega) _
        have HO : Hid (OwnsL 27 16 (x3.setRow b5 (vk 4 v)) (w.heap.size + 1) (.slice (some ⟨g6, 0, none⟩) 1 1) [cl 16 f]) := OwnsL.rowO HO.out K5 _ (by simp only [Value.ownBlock]; intro e; cases e; exact HNE.out rfl)
        have HL : Hid (LinesN (x3.setRow b5 (vk 4 v)) b5 f d v) := HL.out.row _
        have K5 := K5.row (vk 4 v)
        clear hHeld hw5
        generalize x3.setRow b5 (vk 4 v) = x4 at *
        refine hK.out _ _ K1 (fun hHeld => ?_)
        clear hK K
        try simp only [Act.put, List.setIfInBounds_toArray, List.set_cons_zero, List.set_cons_succ]
        refine wpAnyH_take (i := 7) (oi := { dst := some 6, op := _, type := _, pos := _, after := _, guard := _ }) (v := .slice (some ⟨g6, 0, none⟩) 1 1) rfl (by kernel_rfl) (by kernel_rfl) (by kernel_rfl) (fun _ _ _ h => h) (Or.inl ⟨by rfl, by intro w hSw; clear hSw; go_simp; (try with_reducible rfl)⟩) (by assumption) ?_
        try simp only [Act.put, List.setIfInBounds_toArray, List.set_cons_zero, List.set_cons_succ]
        refine wpAnyH_done (by kernel_rfl) ?_ _
        clear hHeld
        go_wp2_with fail
        go_meet
        case rel => exact ⟨b5, g6, v, rfl, rfl, K1, K5, HL.out, HO.out, HB.out, H5W.out⟩
      refine AllReadyH.cons rfl (fun K hK => ?_) AllReadyH.nil
      rw [if_pos (by rfl)]
      refine wp_store_vk _ _ _ rfl rfl rfl K5 sizeLL H1.out rfl ?_
      have hw5 : w.heap.size < b5 := H5W.out
      have K1 := K1.rowOther b5 (vk 4 v) (by omega)
      have HB : Hid (Below w.heap.size w (x2.setRow b5 (vk 4 v))) := below_setRow HB.out (by omega) _
      have HL : Hid (LinesN (x2.setRow b5 (vk 4 v)) b5 f d v) := HL.out.row _
      have K5 := K5.row (vk 4 v)
      clear hHeld hw5
      generalize x2.setRow b5 (vk 4 v) = x3 at *
      refine hK.out _ _ K1 (fun hHeld => ?_)
      clear hK K
      try simp only [Act.put, List.setIfInBounds_toArray, List.set_cons_zero, List.set_cons_succ]
      refine wpAnyH_ready (rs := [4]) (by kernel_rfl) (by simp) ?_
      refine AllReadyH.cons rfl (fun K hK => ?_) AllReadyH.nil
      rw [if_pos (by rfl)]
      refine wp_buildBd 15 _ rfl rfl (f := f) rfl ?_
      have hkx := K1.lt
      have HO : Hid (OwnsL 27 16 (x3.alloc (.cells (mk 16 f) 27)) (w.heap.size + 1) (.slice (some ⟨x3.heap.size, 0, none⟩) 1 1) [cl 16 f]) := OwnsL.one x3 f (by omega) (by omega)
      have HNE : Hid (x3.heap.size ≠ b5) := by have := K5.lt; show _ ≠ _; omega
      have K1 := K1.alloc (.cells (mk 16 f) 27)
      have HB : Hid (Below w.heap.size w (x3.alloc (.cells (mk 16 f) 27))) := HB.out.alloc HB.out.size _
      have K5 := K5.alloc (.cells (mk 16 f) 27)
      have H5Y : Hid (b5 < (x3.alloc (.cells (mk 16 f) 27)).heap.size) := K5.lt
      clear H5X
      have H5X := H5Y
      clear H5Y
      have HL : Hid (LinesN (x3.alloc (.cells (mk 16 f) 27)) b5 f d v) := HL.out.alloc _
      clear hHeld hkx
      generalize x3.alloc (.cells (mk 16 f) 27) = x4 at *
      generalize x3.heap.size = g6 at *
      refine hK.out _ _ K1 (fun hHeld => ?_)
      clear hK K
      try simp only [Act.put, List.setIfInBounds_toArray, List.set_cons_zero, List.set_cons_succ]
      refine wpAnyH_take (i := 7) (oi := { dst := some 6, op := _, type := _, pos := _, after := _, guard := _ }) (v := .slice (some ⟨g6, 0, none⟩) 1 1) rfl (by kernel_rfl) (by kernel_rfl) (by kernel_rfl) (fun _ _ _ h => h) (Or.inl ⟨by rfl, by intro w hSw; clear hSw; go_simp; (try with_reducible rfl)⟩) (by assumption) ?_
      try simp only [Act.put, List.setIfInBounds_toArray, List.set_cons_zero, List.set_cons_succ]
      refine wpAnyH_done (by kernel_rfl) ?_ _
      clear hHeld
      go_wp2_with fail
      go_meet
      case rel => exact ⟨b5, g6, v, rfl, rfl, K1, K5, HL.out, HO.out, HB.out, H5W.out⟩
    refine AllReadyH.cons rfl (fun K hK => ?_) ?_
    · rw [if_pos (by rfl)]
      refine wp_buildBd 15 _ rfl rfl (f := f) rfl ?_
      have hkx := K1.lt
      have HO : Hid (OwnsL 27 16 (x0.alloc (.cells (mk 16 f) 27)) (w.heap.size + 1) (.slice (some ⟨x0.heap.size, 0, none⟩) 1 1) [cl 16 f]) := OwnsL.one x0 f (by omega) (by omega)
      have K1 := K1.alloc (.cells (mk 16 f) 27)
      have HB : Hid (Below w.heap.size w (x0.alloc (.cells (mk 16 f) 27))) := HB.out.alloc HB.out.size _
      clear hHeld hkx
      generalize x0.alloc (.cells (mk 16 f) 27) = x1 at *
      generalize x0.heap.size = g6 at *
      refine hK.out _ _ K1 (fun hHeld => ?_)
      clear hK K
      try simp only [Act.put, List.setIfInBounds_toArray, List.set_cons_zero, List.set_cons_succ]
      refine wpAnyH_ready (rs := [2, 5]) (by kernel_rfl) (by simp) ?_
      refine AllReadyH.cons rfl (fun K hK => ?_) ?_
      · go_simp
        refine (l6Lists_any f d _ HV.out HD.out).mono ?_
        rintro e x2 ⟨v, rfl, hl, hb⟩
        have H1 := Lib.hid (listsOne hl)
        have hkx := K1.lt
        have K1 := K1.below hb K1.lt
        have HB : Hid (Below w.heap.size w x2) := HB.out.trans (hb.mono HB.out.size)
        have HO : Hid (OwnsL 27 16 x2 (w.heap.size + 1) (.slice (some ⟨g6, 0, none⟩) 1 1) [cl 16 f]) := HO.out.below hb
        have HT : Hid (LinesB x2 (w.heap.size + 1) f d 4 v) := hl.wide (by omega)
        clear hl hb hHeld hkx
        go_wp2_with fail
        refine hK.out _ _ K1 (fun hHeld => ?_)
        clear hK K
        try simp only [Act.put, List.setIfInBounds_toArray, List.set_cons_zero, List.set_cons_succ]
        refine wpAnyH_ready (rs := [5]) (by kernel_rfl) (by simp) ?_
        refine AllReadyH.cons rfl (fun K hK => ?_) AllReadyH.nil
        rw [if_pos (by rfl)]
        refine wp_allocL 5 rfl rfl ?_
        have hkx := K1.lt
        have H5W := Lib.hid hkx
        clear hkx
        have K5 := Oth.new x2 (vk 4 fun _ => .slice none 0 0) 65
        have H5X : Hid (x2.heap.size < (x2.alloc (.cells (vk 4 fun _ => .slice none 0 0) 65)).heap.size) := by show _ < _; simp
        have HNE : Hid (g6 ≠ x2.heap.size) := by have : g6 < x2.heap.size := (HO.out.lt g6 rfl).2; show _ ≠ _; omega
        have HO : Hid (OwnsL 27 16 (x2.alloc (.cells (vk 4 fun _ => .slice none 0 0) 65)) (w.heap.size + 1) (.slice (some ⟨g6, 0, none⟩) 1 1) [cl 16 f]) := HO.out.alloc _
        have HL : Hid (LinesN (x2.alloc (.cells (vk 4 fun _ => .slice none 0 0) 65)) x2.heap.size f d v) := linesN_new HT.out _
        have K1 := K1.alloc (.cells (vk 4 fun _ => .slice none 0 0) 65)
        have HB : Hid (Below w.heap.size w (x2.alloc (.cells (vk 4 fun _ => .slice none 0 0) 65))) := HB.out.alloc HB.out.size _
        clear hHeld
        generalize x2.alloc (.cells (vk 4 fun _ => .slice none 0 0) 65) = x3 at *
        generalize x2.heap.size = b5 at *
        refine hK.out _ _ K1 (fun hHeld => ?_)
        clear hK K
        try simp only [Act.put, List.setIfInBounds_toArray, List.set_cons_zero, List.set_cons_succ]
        refine wpAnyH_ready (rs := [6]) (by kernel_rfl) (by simp) ?_
        refine AllReadyH.cons rfl (fun K hK => ?_) AllReadyH.nil
        rw [if_pos (by rfl)]
        refine wp_store_vk _ _ _ rfl rfl rfl K5 sizeLL H1.out rfl ?_
        have hw5 : w.heap.size < b5 := H5W.out
        have K1 := K1.rowOther b5 (vk 4 v) (by omega)
        have HB : Hid (Below w.heap.size w (x3.setRow b5 (vk 4 v))) := below_setRow HB.out (by omega) _
        have HO : Hid (OwnsL 27 16 (x3.setRow b5 (vk 4 v)) (w.heap.size + 1) (.slice (some ⟨g6, 0, none⟩) 1 1) [cl 16 f]) := OwnsL.rowO HO.out K5 _ (by simp only [Value.ownBlock]; intro e; cases e; exact HNE.out rfl)
        have HL : Hid (LinesN (x3.setRow b5 (vk 4 v)) b5 f d v) := HL.out.row _
        have K5 := K5.row (vk 4 v)
        clear hHeld hw5
        generalize x3.setRow b5 (vk 4 v) = x4 at *
        refine hK.out _ _ K1 (fun hHeld => ?_)
        clear hK K
        try simp only [Act.put, List.setIfInBounds_toArray, List.set_cons_zero, List.set_cons_succ]
        refine wpAnyH_take (i := 7) (oi := { dst := some 6, op := _, type := _, pos := _, after := _, guard := _ }) (v := .slice (some ⟨g6, 0, none⟩) 1 1) rfl (by kernel_rfl) (by kernel_rfl) (by kernel_rfl) (fun _ _ _ h => h) (Or.inl ⟨by rfl, by intro w hSw; clear hSw; go_simp; (try with_reducible rfl)⟩) (by assumption) ?_
        try simp only [Act.put, List.setIfInBounds_toArray, List.set_cons_zero, List.set_cons_succ]
        refine wpAnyH_done (by kernel_rfl) ?_ _
        clear hHeld
        go_wp2_with fail
        go_meet
        case rel => exact ⟨b5, g6, v, rfl, rfl, K1, K5, HL.out, HO.out, HB.out, H5W.out⟩
      refine AllReadyH.cons rfl (fun K hK => ?_) AllReadyH.nil
      rw [if_pos (by rfl)]
      refine wp_allocL 5 rfl rfl ?_
      have hkx := K1.lt
      have H5W := Lib.hid hkx
      clear hkx
      have K5 := Oth.new x1 (vk 4 fun _ => .slice none 0 0) 65
      have H5X : Hid (x1.heap.size < (x1.alloc (.cells (vk 4 fun _ => .slice none 0 0) 65)).heap.size) := by show _ < _; simp
      have HNE : Hid (g6 ≠ x1.heap.size) := by have : g6 < x1.heap.size := (HO.out.lt g6 rfl).2; show _ ≠ _; omega
      have HO : Hid (OwnsL 27 16 (x1.alloc (.cells (vk 4 fun _ => .slice none 0 0) 65)) (w.heap.size + 1) (.slice (some ⟨g6, 0, none⟩) 1 1) [cl 16 f]) := HO.out.alloc _
      have K1 := K1.alloc (.cells (vk 4 fun _ => .slice none 0 0) 65)
      have HB : Hid (Below w.heap.size w (x1.alloc (.cells (vk 4 fun _ => .slice none 0 0) 65))) := HB.out.alloc HB.out.size _
      clear hHeld
      generalize x1.alloc (.cells (vk 4 fun _ => .slice none 0 0) 65) = x2 at *
      generalize x1.heap.size = b5 at *
      refine hK.out _ _ K1 (fun hHeld => ?_)
      clear hK K
      try simp only [Act.put, List.setIfInBounds_toArray, List.set_cons_zero, List.set_cons_succ]
      refine wpAnyH_ready (rs := [2]) (by kernel_rfl) (by simp) ?_
      refine AllReadyH.cons rfl (fun K hK => ?_) AllReadyH.nil
      go_simp
      refine (l6Lists_any f d _ HV.out HD.out).mono ?_
      rintro e x3 ⟨v, rfl, hl, hb⟩
      have H1 := Lib.hid (listsOne hl)
      have hkx := K1.lt
      have K1 := K1.below hb K1.lt
      have HB : Hid (Below w.heap.size w x3) := HB.out.trans (hb.mono HB.out.size)
      have HO : Hid (OwnsL 27 16 x3 (w.heap.size + 1) (.slice (some ⟨g6, 0, none⟩) 1 1) [cl 16 f]) := HO.out.below hb
      have HL : Hid (LinesN x3 b5 f d v) := linesN_low hl H5X.out
      have K5 := K5.below hb K5.lt
      clear hl hb hHeld hkx
      go_wp2_with fail
      refine hK.out _ _ K1 (fun hHeld => ?_)
      clear hK K
      try simp only [Act.put, List.setIfInBounds_toArray, List.set_cons_zero, List.set_cons_succ]
      refine wpAnyH_ready (rs := [6]) (by kernel_rfl) (by simp) ?_
      refine AllReadyH.cons rfl (fun K hK => ?_) AllReadyH.nil
      rw [if_pos (by rfl)]
      refine wp_store_vk _ _ _ rfl rfl rfl K5 sizeLL H1.out rfl ?_
      have hw5 : w.heap.size < b5 := H5W.out
      have K1 := K1.rowOther b5 (vk 4 v) (by omega)
      have HB : Hid (Below w.heap.size w (x3.setRow b5 (vk 4 v))) := below_setRow HB.out (by omega) _
      have HO : Hid (OwnsL 27 16 (x3.setRow b5 (vk 4 v)) (w.heap.size + 1) (.slice (some ⟨g6, 0, none⟩) 1 1) [cl 16 f]) := OwnsL.rowO HO.out K5 _ (by simp only [Value.ownBlock]; intro e; cases e; exact HNE.out rfl)
      have HL : Hid (LinesN (x3.setRow b5 (vk 4 v)) b5 f d v) := HL.out.row _
      have K5 := K5.row (vk 4 v)
      clear hHeld hw5
      generalize x3.setRow b5 (vk 4 v) = x4 at *
      refine hK.out _ _ K1 (fun hHeld => ?_)
      clear hK K
      try simp only [Act.put, List.setIfInBounds_toArray, List.set_cons_zero, List.set_cons_succ]
      refine wpAnyH_take (i := 7) (oi := { dst := some 6, op := _, type := _, pos := _, after := _, guard := _ }) (v := .slice (some ⟨g6, 0, none⟩) 1 1) rfl (by kernel_rfl) (by kernel_rfl) (by kernel_rfl) (fun _ _ _ h => h) (Or.inl ⟨by rfl, by intro w hSw; clear hSw; go_simp; (try with_reducible rfl)⟩) (by assumption) ?_
      try simp only [Act.put, List.setIfInBounds_toArray, List.set_cons_zero, List.set_cons_succ]
      refine wpAnyH_done (by kernel_rfl) ?_ _
      clear hHeld
      go_wp2_with fail
      go_meet
      case rel => exact ⟨b5, g6, v, rfl, rfl, K1, K5, HL.out, HO.out, HB.out, H5W.out⟩
    refine AllReadyH.cons rfl (fun K hK => ?_) AllReadyH.nil
    rw [if_pos (by rfl)]
    refine wp_allocL 5 rfl rfl ?_
    have hkx := K1.lt
    have H5W := Lib.hid hkx
    clear hkx
    have K5 := Oth.new x0 (vk 4 fun _ => .slice none 0 0) 65
    have H5X : Hid (x0.heap.size < (x0.alloc (.cells (vk 4 fun _ => .slice none 0 0) 65)).heap.size) := by show _ < _; simp
    have K1 := K1.alloc (.cells (vk 4 fun _ => .slice none 0 0) 65)
    have HB : Hid (Below w.heap.size w (x0.alloc (.cells (vk 4 fun _ => .slice none 0 0) 65))) := HB.out.alloc HB.out.size _
    clear hHeld
    generalize x0.alloc (.cells (vk 4 fun _ => .slice none 0 0) 65) = x1 at *
    generalize x0.heap.size = b5 at *
    refine hK.out _ _ K1 (fun hHeld => ?_)
    clear hK K
    try simp only [Act.put, List.setIfInBounds_toArray, List.set_cons_zero, List.set_cons_succ]
    refine wpAnyH_ready (rs := [2, 4]) (by kernel_rfl) (by simp) ?_
    refine AllReadyH.cons rfl (fun K hK => ?_) ?_
    · go_simp
      refine (l6Lists_any f d _ HV.out HD.out).mono ?_
      rintro e x2 ⟨v, rfl, hl, hb⟩
      have H1 := Lib.hid (listsOne hl)
      have hkx := K1.lt
      have K1 := K1.below hb K1.lt
      have HB : Hid (Below w.heap.size w x2) := HB.out.trans (hb.mono HB.out.size)
      have HL : Hid (LinesN x2 b5 f d v) := linesN_low hl H5X.out
      have K5 := K5.below hb K5.lt
      clear hl hb hHeld hkx
      go_wp2_with fail
      refine hK.out _ _ K1 (fun hHeld => ?_)
      clear hK K
      try simp only [Act.put, List.setIfInBounds_toArray, List.set_cons_zero, List.set_cons_succ]
      refine wpAnyH_ready (rs := [4, 6]) (by kernel_rfl) (by simp) ?_
      refine AllReadyH.cons rfl (fun K hK => ?_) ?_
      · rw [if_pos (by rfl)]
        refine wp_buildBd 15 _ rfl rfl (f := f) rfl ?_
        have hkx := K1.lt
        have HO : Hid (OwnsL 27 16 (x2.alloc (.cells (mk 16 f) 27)) (w.heap.size + 1) (.slice (some ⟨x2.heap.size, 0, none⟩) 1 1) [cl 16 f]) := OwnsL.one x2 f (by omega) (by omega)
        have HNE : Hid (x2.heap.size ≠ b5) := by have := K5.lt; show _ ≠ _; omega
        have K1 := K1.alloc (.cells (mk 16 f) 27)
        have HB : Hid (Below w.heap.size w (x2.alloc (.cells (mk 16 f) 27))) := HB.out.alloc HB.out.size _
        have K5 := K5.alloc (.cells (mk 16 f) 27)
        have H5Y : Hid (b5 < (x2.alloc (.cells (mk 16 f) 27)).heap.size) := K5.lt
        clear H5X
        have H5X := H5Y
        clear H5Y
        have HL : Hid (LinesN (x2.alloc (.cells (mk 16 f) 27)) b5 f d v) := HL.out.alloc _
        clear hHeld hkx
        generalize x2.alloc (.cells (mk 16 f) 27) = x3 at *
        generalize x2.heap.size = g6 at *
        refine hK.out _ _ K1 (fun hHeld => ?_)
        clear hK K
        try simp only [Act.put, List.setIfInBounds_toArray, List.set_cons_zero, List.set_cons_succ]
        refine wpAnyH_ready (rs := [6]) (by kernel_rfl) (by simp) ?_
        refine AllReadyH.cons rfl (fun K hK => ?_) AllReadyH.nil
        rw [if_pos (by rfl)]
        refine wp_store_vk _ _ _ rfl rfl rfl K5 sizeLL H1.out rfl ?_
        have hw5 : w.heap.size < b5 := H5W.out
        have K1 := K1.rowOther b5 (vk 4 v) (by omega)
        have HB : Hid (Below w.heap.size w (x3.setRow b5 (vk 4 v))) := below_setRow HB.out (by omega) _
        have HO : Hid (OwnsL 27 16 (x3.setRow b5 (vk 4 v)) (w.heap.size + 1) (.slice (some ⟨g6, 0, none⟩) 1 1) [cl 16 f]) := OwnsL.rowO HO.out K5 _ (by simp only [Value.ownBlock]; intro e; cases e; exact HNE.out rfl)
        have HL : Hid (LinesN (x3.setRow b5 (vk 4 v)) b5 f d v) := HL.out.row _
        have K5 := K5.row (vk 4 v)
        clear hHeld hw5
        generalize x3.setRow b5 (vk 4 v) = x4 at *
        refine hK.out _ _ K1 (fun hHeld => ?_)
        clear hK K
        try simp only [Act.put, List.setIfInBounds_toArray, List.set_cons_zero, List.set_cons_succ]
        refine wpAnyH_take (i := 7) (oi := { dst := some 6, op := _, type := _, pos := _, after := _, guard := _ }) (v := .slice (some ⟨g6, 0, none⟩) 1 1) rfl (by kernel_rfl) (by kernel_rfl) (by kernel_rfl) (fun _ _ _ h => h) (Or.inl ⟨by rfl, by intro w hSw; clear hSw; go_simp; (try with_reducible rfl)⟩) (by assumption) ?_
        try simp only [Act.put, List.setIfInBounds_toArray, List.set_cons_zero, List.set_cons_succ]
        refine wpAnyH_done (by kernel_rfl) ?_ _
        clear hHeld
        go_wp2_with fail
        go_meet
        case rel => exact ⟨b5, g6, v, rfl, rfl, K1, K5, HL.out, HO.out, HB.out, H5W.out⟩
      refine AllReadyH.cons rfl (fun K hK => ?_) AllReadyH.nil
      rw [if_pos (by rfl)]
      refine wp_store_vk _ _ _ rfl rfl rfl K5 sizeLL H1.out rfl ?_
      have hw5 : w.heap.size < b5 := H5W.out
      have K1 := K1.rowOther b5 (vk 4 v) (by omega)
      have HB : Hid (Below w.heap.size w (x2.setRow b5 (vk 4 v))) := below_setRow HB.out (by omega) _
      have HL : Hid (LinesN (x2.setRow b5 (vk 4 v)) b5 f d v) := HL.out.row _
      have K5 := K5.row (vk 4 v)
      clear hHeld hw5
      generalize x2.setRow b5 (vk 4 v) = x3 at *
      refine hK.out _ _ K1 (fun hHeld => ?_)
      clear hK K
      try simp only [Act.put, List.setIfInBounds_toArray, List.set_cons_zero, List.set_cons_succ]
      refine wpAnyH_ready (rs := [4]) (by kernel_rfl) (by simp) ?_
      refine AllReadyH.cons rfl (fun K hK => ?_) AllReadyH.nil
      rw [if_pos (by rfl)]
      refine wp_buildBd 15 _ rfl rfl (f := f) rfl ?_
      have hkx := K1.lt
      have HO : Hid (OwnsL 27 16 (x3.alloc (.cells (mk 16 f) 27)) (w.heap.size + 1) (.slice (some ⟨x3.heap.size, 0, none⟩) 1 1) [cl 16 f]) := OwnsL.one x3 f (by omega) (by omega)
      have HNE : Hid (x3.heap.size ≠ b5) := by have := K5.lt; show _ ≠ _; omega
      have K1 := K1.alloc (.cells (mk 16 f) 27)
      have HB : Hid (Below w.heap.size w (x3.alloc (.cells (mk 16 f) 27))) := HB.out.alloc HB.out.size _
      have K5 := K5.alloc (.cells (mk 16 f) 27)
      have H5Y : Hid (b5 < (x3.alloc (.cells (mk 16 f) 27)).heap.size) := K5.lt
      clear H5X
      have H5X := H5Y
      clear H5Y
      have HL : Hid (LinesN (x3.alloc (.cells (mk 16 f) 27)) b5 f d v) := HL.out.alloc _
      clear hHeld hkx
      generalize x3.alloc (.cells (mk 16 f) 27) = x4 at *
      generalize x3.heap.size = g6 at *
      refine hK.out _ _ K1 (fun hHeld => ?_)
      clear hK K
      try simp only [Act.put, List.setIfInBounds_toArray, List.set_cons_zero, List.set_cons_succ]
      refine wpAnyH_take (i := 7) (oi := { dst := some 6, op := _, type := _, pos := _, after := _, guard := _ }) (v := .slice (some ⟨g6, 0, none⟩) 1 1) rfl (by kernel_rfl) (by kernel_rfl) (by kernel_rfl) (fun _ _ _ h => h) (Or.inl ⟨by rfl, by intro w hSw; clear hSw; go_simp; (try with_reducible rfl)⟩) (by assumption) ?_
      try simp only [Act.put, List.setIfInBounds_toArray, List.set_cons_zero, List.set_cons_succ]
      refine wpAnyH_done (by kernel_rfl) ?_ _
      clear hHeld
      go_wp2_with fail
      go_meet
      case rel => exact ⟨b5, g6, v, rfl, rfl, K1, K5, HL.out, HO.out, HB.out, H5W.out⟩
    refine AllReadyH.cons rfl (fun K hK => ?_) AllReadyH.nil
    rw [if_pos (by rfl)]
    refine wp_buildBd 15 _ rfl rfl (f := f) rfl ?_
    have hkx := K1.lt
    have HO : Hid (OwnsL 27 16 (x1.alloc (.cells (mk 16 f) 27)) (w.heap.size + 1) (.slice (some ⟨x1.heap.size, 0, none⟩) 1 1) [cl 16 f]) := OwnsL.one x1 f (by omega) (by omega)
    have HNE : Hid (x1.heap.size ≠ b5) := by have := K5.lt; show _ ≠ _; omega
    have K1 := K1.alloc (.cells (mk 16 f) 27)
    have HB : Hid (Below w.heap.size w (x1.alloc (.cells (mk 16 f) 27))) := HB.out.alloc HB.out.size _
    have K5 := K5.alloc (.cells (mk 16 f) 27)
    have H5Y : Hid (b5 < (x1.alloc (.cells (mk 16 f) 27)).heap.size) := K5.lt
    clear H5X
    have H5X := H5Y
    clear H5Y
    clear hHeld hkx
    generalize x1.alloc (.cells (mk 16 f) 27) = x2 at *
    generalize x1.heap.size = g6 at *
    refine hK.out _ _ K1 (fun hHeld => ?_)
    clear hK K
    try simp only [Act.put, List.setIfInBounds_toArray, List.set_cons_zero, List.set_cons_succ]
    refine wpAnyH_ready (rs := [2]) (by kernel_rfl) (by simp) ?_
    refine AllReadyH.cons rfl (fun K hK => ?_) AllReadyH.nil
    go_simp
    refine (l6Lists_any f d _ HV.out HD.out).mono ?_
    rintro e x3 ⟨v, rfl, hl, hb⟩
    have H1 := Lib.hid (listsOne hl)
    have hkx := K1.lt
    have K1 := K1.below hb K1.lt
    have HB : Hid (Below w.heap.size w x3) := HB.out.trans (hb.mono HB.out.size)
    have HO : Hid (OwnsL 27 16 x3 (w.heap.size + 1) (.slice (some ⟨g6, 0, none⟩) 1 1) [cl 16 f]) := HO.out.below hb
    have HL : Hid (LinesN x3 b5 f d v) := linesN_low hl H5X.out
    have K5 := K5.below hb K5.lt
    clear hl hb hHeld hkx
    go_wp2_with fail
    refine hK.out _ _ K1 (fun hHeld => ?_)
    clear hK K
    try simp only [Act.put, List.setIfInBounds_toArray, List.set_cons_zero, List.set_cons_succ]
    refine wpAnyH_ready (rs := [6]) (by kernel_rfl) (by simp) ?_
    refine AllReadyH.cons rfl (fun K hK => ?_) AllReadyH.nil
    rw [if_pos (by rfl)]
    refine wp_store_vk _ _ _ rfl rfl rfl K5 sizeLL H1.out rfl ?_
    have hw5 : w.heap.size < b5 := H5W.out
    have K1 := K1.rowOther b5 (vk 4 v) (by omega)
    have HB : Hid (Below w.heap.size w (x3.setRow b5 (vk 4 v))) := below_setRow HB.out (by omega) _
    have HO : Hid (OwnsL 27 16 (x3.setRow b5 (vk 4 v)) (w.heap.size + 1) (.slice (some ⟨g6, 0, none⟩) 1 1) [cl 16 f]) := OwnsL.rowO HO.out K5 _ (by simp only [Value.ownBlock]; intro e; cases e; exact HNE.out rfl)
    have HL : Hid (LinesN (x3.setRow b5 (vk 4 v)) b5 f d v) := HL.out.row _
    have K5 := K5.row (vk 4 v)
    clear hHeld hw5
    generalize x3.setRow b5 (vk 4 v) = x4 at *
    refine hK.out _ _ K1 (fun hHeld => ?_)
    clear hK K
    try simp only [Act.put, List.setIfInBounds_toArray, List.set_cons_zero, List.set_cons_succ]
    refine wpAnyH_take (i := 7) (oi := { dst := some 6, op := _, type := _, pos := _, after := _, guard := _ }) (v := .slice (some ⟨g6, 0, none⟩) 1 1) rfl (by kernel_rfl) (by kernel_rfl) (by kernel_rfl) (fun _ _ _ h => h) (Or.inl ⟨by rfl, by intro w hSw; clear hSw; go_simp; (try with_reducible rfl)⟩) (by assumption) ?_
    try simp only [Act.put, List.setIfInBounds_toArray, List.set_cons_zero, List.set_cons_succ]
    refine wpAnyH_done (by kernel_rfl) ?_ _
    clear hHeld
    go_wp2_with fail
    go_meet
    case rel => exact ⟨b5, g6, v, rfl, rfl, K1, K5, HL.out, HO.out, HB.out, H5W.out⟩
  case rest =>
    clear K1 HB zl
    obtain ⟨b5, g6, v, rfl, rfl, K1, K5, hl, ho, hb, hb5⟩ := hcut
    have HL := Lib.hid hl
    have HO : Hid (OwnsL 27 16 wc (w.heap.size + 1) (.slice (some ⟨g6, 0, none⟩) 1 1) (spS f d 0)) := ho
    have HB := Lib.hid hb
    clear hl ho hb K1
    go_wp2_with fail
    go_loopg [6, 7] 4 (fun gk s6 s7 wr => ∃ (i : Nat) (u : Value), i + gk = 4 ∧ s7 = .int .i64 i ∧ u = s6 ∧ (∃ gg cap, u = .slice (some ⟨gg, 0, none⟩) (spS f d i).length cap) ∧ Hid (OwnsL 27 16 wr (w.heap.size + 1) u (spS f d i)) ∧ Oth wr b5 (vk 4 v) 65 ∧ Hid (LinesN wr b5 f d v) ∧ Hid (Below w.heap.size w wr))
    case atStart => exact ⟨0, _, by omega, rfl, rfl, ⟨_, _, rfl⟩, HO, K5, HL, HB⟩
    case round =>
      clear HO K5 HL HB
      obtain ⟨i, u, hig, rfl, rfl, ⟨gs, cs, hu⟩, HO, K5, HL, HB⟩ := hrel
      subst hu
      cases gk with
      | zero =>
        have hi4 : ¬ ((i : Int) < 4) := by omega
        obtain rfl : i = 4 := by omega
        go_wp2_with fail
        go_ret
        exact ⟨gs, cs, rfl, HO.out.wide (by omega), HB.out⟩
      | succ q1 =>
        have hi4 : (i : Int) < 4 := by omega
        have hi0 : (0 : Int) ≤ (i : Int) := by omega
        have hi9 : i < 4 := by omega
        obtain ⟨gl, cl0, hv, hgl, CR⟩ := HL.out i hi9
        have hsz := HB.out.size
        have hgs : gs < wr.heap.size := (HO.out.lt gs rfl).2
        obtain ⟨_, _, e1, _, hcs⟩ := KRow.of_list (spS_all f d i) HO.out
        cases e1
        have H6 : Hid (OwnsL 27 16 (wr.alloc (.cells #[] 27)) wr.heap.size (.slice (some ⟨wr.heap.size, 0, none⟩) 0 0) []) := OwnsL.made wr (Nat.le_refl _)
        have H6S : Hid (gs < wr.heap.size) := hgs
        have H65 : Hid (b5 < wr.heap.size) := K5.lt
        have H6L : Hid (gl < wr.heap.size) := CR.1
        have H6N : Hid (∀ i, i < 4 → ∀ g n c, v i = .slice (some ⟨g, 0, none⟩) n c → g < wr.heap.size) := fun j hj g n c e => by
          obtain ⟨g', c', e', _, h3⟩ := HL.out j hj
          rw [e'] at e; cases e; exact h3.1
        have H6W : Hid (w.heap.size ≤ wr.heap.size) := hsz
        have CS := hcs.alloc (.cells #[] 27)
        have CR := CR.alloc (.cells #[] 27)
        have K5 := K5.alloc (.cells #[] 27)
        have HL : Hid (LinesN (wr.alloc (.cells #[] 27)) b5 f d v) := HL.out.alloc _
        have HB : Hid (Below w.heap.size w (wr.alloc (.cells #[] 27))) := HB.out.alloc HB.out.size _
        have HNX : Hid ((spS f d i).length ≤ 50625) := by show _ ≤ _; rw [HSL.out i]; exact HCB.out i (by omega)
        have HGA : Hid (gP (gS d i) (spS f d i) (lnR f d i) (spS f d i).length = spS f d (i + 1)) := gP_all _ _ _
        have HXA : Hid (∀ n, n < (spS f d i).length → ∃ x, (spS f d i)[n]? = some x ∧ ∀ c, c < 16 → flatF (spS f d i) (n * 16 + c) = fn x c) := fun n hn => ⟨_, List.getElem?_eq_getElem hn, fun c hc => flatF_at (spS_all f d i) (List.getElem?_eq_getElem hn) hc⟩
        have HRA : Hid (∀ k, k < (lnR f d i).length → ∃ r, (lnR f d i)[k]? = some r ∧ ∀ c, c < 4 → flatF (lnR f d i) (k * 4 + c) = fn r c) := fun k hk => ⟨_, List.getElem?_eq_getElem hk, fun c hc => flatF_at (lnR_all f d i) (List.getElem?_eq_getElem hk) hc⟩
        have hn15 := lnR_15 f d i
        have HZ : Hid (∀ n, (gP (gS d i) (spS f d i) (lnR f d i) n).length ≤ n * (lnR f d i).length) := gP_len _ _ _
        have HVI := Lib.hid hv
        have HWB : Hid (w.heap.size + 1 ≤ wr.heap.size) := by show _ ≤ _; have := (HO.out.lt gs rfl).1; omega
        clear hv hcs HO
        go_wp2_with fail
        have h6 : wr.heap.size ≤ (wr.alloc (.cells #[] 27)).heap.size := by simp
        generalize wr.alloc (.cells #[] 27) = w2 at *
        generalize wr.heap.size = b6 at *
        generalize hX : spS f d i = X at *
        generalize hNX : X.length = nX at *
        generalize hHS : flatF X = hS at *
        generalize hR : lnR f d i = R at *
        generalize hNR : R.length = nR at *
        generalize hHR : flatF R = hR2 at *
        clear hX hHS hHR
        go_loopg [8, 9] nX (fun gn s8 s9 wx => ∃ (n : Nat) (u : Value), n + gn = nX ∧ s9 = .int .i64 n ∧ u = s8 ∧ (∃ gg cap, u = .slice (some ⟨gg, 0, none⟩) (gP (gS d i) X R n).length cap) ∧ Hid (OwnsL 27 16 wx b6 u (gP (gS d i) X R n)) ∧ CAt wx gs (nX * 16) hS ∧ CAt wx gl (nR * 4) hR2 ∧ Oth wx b5 (vk 4 v) 65 ∧ Hid (LinesN wx b5 f d v) ∧ b6 ≤ wx.heap.size ∧ Hid (Below w.heap.size w wx))
        case atStart => exact ⟨0, _, by omega, rfl, rfl, ⟨_, _, rfl⟩, H6, CS, CR, K5, HL, h6, HB⟩
        case round =>
          clear H6 CS CR K5 HL h6 HB
          obtain ⟨n, u, hng, rfl, rfl, ⟨gg, cap, hu⟩, HO, CS, CR, K5, HL, h6, HB⟩ := hrel
          subst hu
          cases gk with
          | zero =>
            have hn : ¬ ((n : Int) < (nX : Int)) := by omega
            obtain rfl : n = nX := by omega
            go_wp2_with fail
            go_roundg q1
            case rel => exact ⟨i + 1, _, by omega, by go_num, rfl, ⟨gg, cap, by rw [← HGA.out]⟩, by rw [← HGA.out]; exact HO.out.wide HWB.out, K5, HL, HB⟩
            case measure => omega
          | succ q2 =>
            have hn : (n : Int) < (nX : Int) := by omega
            have hn0 : (0 : Int) ≤ (n : Int) := by omega
            have hn9 : n < nX := by omega
            obtain ⟨x, hx, hxc⟩ := HXA.out n (by omega)
            have HGQ := Lib.hid (gQ_all (g := gS d i) (R := R) hx)
            have HXC := Lib.hid hxc
            have hgp : (gP (gS d i) X R n).length ≤ 759375 := by
              have h1 := HZ.out n
              have h2 : n * nR ≤ 50625 * 15 := Nat.mul_le_mul (by have := HNX.out; omega) hn15
              omega
            clear hxc
            go_wp2_with fail
            generalize hA : gP (gS d i) X R n = A at *
            have HQ0 : Hid (gQ (gS d i) A x R 0 = A) := gQ_zero _ _ _ _
            clear hA
            have HQL : Hid (∀ k, k ≤ nR → (gQ (gS d i) A x R k).length ≤ A.length + 15) := fun k hk => by have := gQ_len (gS d i) A x R k; omega
            rw [hNR] at HGQ
            go_loopg [8, 10] nR (fun gj s8 s10 wy => ∃ (k : Nat) (u : Value), k + gj = nR ∧ s10 = .int .i64 k ∧ u = s8 ∧ (∃ gg cap, u = .slice (some ⟨gg, 0, none⟩) (gQ (gS d i) A x R k).length cap) ∧ Hid (OwnsL 27 16 wy b6 u (gQ (gS d i) A x R k)) ∧ CAt wy gs (nX * 16) hS ∧ CAt wy gl (nR * 4) hR2 ∧ Oth wy b5 (vk 4 v) 65 ∧ Hid (LinesN wy b5 f d v) ∧ b6 ≤ wy.heap.size ∧ Hid (Below w.heap.size w wy))
            case atStart => exact ⟨0, _, by omega, rfl, rfl, ⟨gg, cap, by rw [HQ0.out]⟩, by rw [HQ0.out]; exact HO, CS, CR, K5, HL, h6, HB⟩
            case round =>
              clear HO CS CR K5 HL h6 HB
              obtain ⟨k, u, hkg, rfl, rfl, ⟨gg, cap, hu⟩, HO, CS, CR, K5, HL, h6, HB⟩ := hrel
              subst hu
              have c5 := K5.get (i := i) hi9
              rw [HVI.out] at c5
              cases gk with
              | zero =>
                have hk : ¬ ((k : Int) < (nR : Int)) := by omega
                obtain rfl : k = nR := by omega
                have hnx := HNX.out
                go_wp2_with fail
                go_roundg q2
                case rel => exact ⟨n + 1, _, by omega, by go_num, rfl, ⟨gg, cap, by rw [← HGQ.out]⟩, by rw [← HGQ.out]; exact HO, CS, CR, K5, HL, h6, HB⟩
                case measure => omega
              | succ q3 =>
                have hk : (k : Int) < (nR : Int) := by omega
                have hk0 : (0 : Int) ≤ (k : Int) := by omega
                have hk9 : k < nR := by omega
                obtain ⟨r, hr, hrc⟩ := HRA.out k (by omega)
                have HGS := Lib.hid (gQ_step (g := gS d i) (A := A) (x := x) hr)
                have hql := HQL.out k (by omega)
                have HGV : Hid (cl 16 (withF d i (fun j => hS (n * 16 + j)) (fun j => hR2 (k * 4 + j))) = gS d i x r) := cl_inj.2 fun j hj => by
                  have hp := placeOf_lt (d := d) hj
                  unfold withF
                  by_cases q : lineOf d j = i
                  · rw [if_pos q, if_pos q]; exact hrc _ hp
                  · rw [if_neg q, if_neg q]; exact HXC.out j hj
                clear hrc
                go_wp2_with fail
                clear c5
                refine wp_region_held_drew (S := fun W => CAt W gs (nX * 16) hS ∧ Oth W b5 (vk 4 v) 65 ∧ CAt W gl (nR * 4) hR2) (by kernel_rfl) (⟨CS.drew, K5.drew, CR.drew⟩) (fun hHeld => ?_)
                have CS : CAt wr.drew gs (nX * 16) hS := CS.drew
                have K5 : Oth wr.drew b5 (vk 4 v) 65 := K5.drew
                have CR : CAt wr.drew gl (nR * 4) hR2 := CR.drew
                have HB : Hid (Below w.heap.size w wr.drew) := HB.out.drew
                have HL : Hid (LinesN wr.drew b5 f d v) := HL.out
                have HO : Hid (OwnsL 27 16 wr.drew b6 (.slice (some ⟨gg, 0, none⟩) (gQ (gS d i) A x R k).length cap) (gQ (gS d i) A x R k)) := HO.out
                have h6x : b6 ≤ wr.drew.heap.size := h6
                generalize wr.drew = x0 at *
                refine wpAnyH_take (i := 0) (oi := { dst := some 35, op := _, type := _, pos := _, after := _, guard := _ }) (v := .slice (some ⟨gg, 0, none⟩) (gQ (gS d i) A x R k).length cap) rfl (by kernel_rfl) (by kernel_rfl) (by kernel_rfl) (fun _ _ _ h => h) (Or.inl ⟨by rfl, by intro w hSw; clear hSw; go_simp; (try with_reducible rfl)⟩) (by assumption) ?_
                try simp only [Act.put, List.setIfInBounds_toArray, List.set_cons_zero, List.set_cons_succ]
                refine wpAnyH_take (i := 1) (oi := { dst := some 36, op := _, type := _, pos := _, after := _, guard := _ }) (v := .slice (some ⟨gs, 0, none⟩) nX cs) rfl (by kernel_rfl) (by kernel_rfl) (by kernel_rfl) (fun _ _ _ h => h) (Or.inl ⟨by rfl, by intro w hSw; clear hSw; go_simp; (try with_reducible rfl)⟩) (by assumption) ?_
                try simp only [Act.put, List.setIfInBounds_toArray, List.set_cons_zero, List.set_cons_succ]
                refine wpAnyH_take (i := 2) (oi := { dst := some 37, op := _, type := _, pos := _, after := _, guard := _ }) (v := .int .i64 (n : Int)) rfl (by kernel_rfl) (by kernel_rfl) (by kernel_rfl) (fun _ _ _ h => h) (Or.inl ⟨by rfl, by intro w hSw; clear hSw; go_simp; (try with_reducible rfl)⟩) (by assumption) ?_
                try simp only [Act.put, List.setIfInBounds_toArray, List.set_cons_zero, List.set_cons_succ]
                refine wpAnyH_take (i := 3) (oi := { dst := some 38, op := _, type := _, pos := _, after := _, guard := _ }) (v := .pointer (some ⟨gs, n * 16, none⟩)) rfl (by kernel_rfl) (by kernel_rfl) (by kernel_rfl) (fun _ _ _ h => h) (Or.inl ⟨by rfl, by intro w hSw; clear hSw; go_simp; (try with_reducible rfl)⟩) (by assumption) ?_
                try simp only [Act.put, List.setIfInBounds_toArray, List.set_cons_zero, List.set_cons_succ]
                refine wpAnyH_take (i := 4) (oi := { dst := some 39, op := _, type := _, pos := _, after := _, guard := _ }) (v := .agg (mk 16 fun j => hS (n * 16 + j))) rfl (by kernel_rfl) (by kernel_rfl) (by kernel_rfl) (fun _ _ _ h => h) (Or.inl ⟨by rfl, fun _ q => execAB q.1 (by omega) rfl rfl⟩) (by assumption) ?_
                try simp only [Act.put, List.setIfInBounds_toArray, List.set_cons_zero, List.set_cons_succ]
                refine wpAnyH_take (i := 5) (oi := { dst := some 40, op := _, type := _, pos := _, after := _, guard := _ }) (v := .int .i64 (d : Int)) rfl (by kernel_rfl) (by kernel_rfl) (by kernel_rfl) (fun _ _ _ h => h) (Or.inl ⟨by rfl, by intro w hSw; clear hSw; go_simp; (try with_reducible rfl)⟩) (by assumption) ?_
                try simp only [Act.put, List.setIfInBounds_toArray, List.set_cons_zero, List.set_cons_succ]
                refine wpAnyH_take (i := 6) (oi := { dst := some 41, op := _, type := _, pos := _, after := _, guard := _ }) (v := .int .i64 (i : Int)) rfl (by kernel_rfl) (by kernel_rfl) (by kernel_rfl) (fun _ _ _ h => h) (Or.inl ⟨by rfl, by intro w hSw; clear hSw; go_simp; (try with_reducible rfl)⟩) (by assumption) ?_
                try simp only [Act.put, List.setIfInBounds_toArray, List.set_cons_zero, List.set_cons_succ]
                refine wpAnyH_take (i := 7) (oi := { dst := some 42, op := _, type := _, pos := _, after := _, guard := _ }) (v := .int .i64 (i : Int)) rfl (by kernel_rfl) (by kernel_rfl) (by kernel_rfl) (fun _ _ _ h => h) (Or.inl ⟨by rfl, by intro w hSw; clear hSw; go_simp; (try with_reducible rfl)⟩) (by assumption) ?_
                try simp only [Act.put, List.setIfInBounds_toArray, List.set_cons_zero, List.set_cons_succ]
                refine wpAnyH_take (i := 8) (oi := { dst := some 43, op := _, type := _, pos := _, after := _, guard := _ }) (v := .pointer (some ⟨b5, i, none⟩)) rfl (by kernel_rfl) (by kernel_rfl) (by kernel_rfl) (fun _ _ _ h => h) (Or.inl ⟨by rfl, by intro w hSw; clear hSw; go_simp; (try with_reducible rfl)⟩) (by assumption) ?_
                try simp only [Act.put, List.setIfInBounds_toArray, List.set_cons_zero, List.set_cons_succ]
                refine wpAnyH_take (i := 9) (oi := { dst := some 44, op := _, type := _, pos := _, after := _, guard := _ }) (v := .slice (some ⟨gl, 0, none⟩) nR cl0) rfl (by kernel_rfl) (by kernel_rfl) (by kernel_rfl) (fun _ _ _ h => h) (Or.inl ⟨by rfl, fun _ q => execLS ((q.2.1.get hi9).trans (congrArg some HVI.out)) rfl rfl⟩) (by assumption) ?_
                try simp only [Act.put, List.setIfInBounds_toArray, List.set_cons_zero, List.set_cons_succ]
                refine wpAnyH_take (i := 10) (oi := { dst := some 45, op := _, type := _, pos := _, after := _, guard := _ }) (v := .int .i64 (k : Int)) rfl (by kernel_rfl) (by kernel_rfl) (by kernel_rfl) (fun _ _ _ h => h) (Or.inl ⟨by rfl, by intro w hSw; clear hSw; go_simp; (try with_reducible rfl)⟩) (by assumption) ?_
                try simp only [Act.put, List.setIfInBounds_toArray, List.set_cons_zero, List.set_cons_succ]
                refine wpAnyH_take (i := 11) (oi := { dst := some 46, op := _, type := _, pos := _, after := _, guard := _ }) (v := .pointer (some ⟨gl, k * 4, none⟩)) rfl (by kernel_rfl) (by kernel_rfl) (by kernel_rfl) (fun _ _ _ h => h) (Or.inl ⟨by rfl, by intro w hSw; clear hSw; go_simp; (try with_reducible rfl)⟩) (by assumption) ?_
                try simp only [Act.put, List.setIfInBounds_toArray, List.set_cons_zero, List.set_cons_succ]
                refine wpAnyH_take (i := 12) (oi := { dst := some 47, op := _, type := _, pos := _, after := _, guard := _ }) (v := .agg (mk 4 fun j => hR2 (k * 4 + j))) rfl (by kernel_rfl) (by kernel_rfl) (by kernel_rfl) (fun _ _ _ h => h) (Or.inl ⟨by rfl, fun _ q => execAR q.2.2 (by omega) rfl rfl⟩) (by assumption) ?_
                try simp only [Act.put, List.setIfInBounds_toArray, List.set_cons_zero, List.set_cons_succ]
                refine wpAnyH_ready (rs := [13]) (by kernel_rfl) (by simp) ?_
                refine AllReadyH.cons rfl (fun K hK => ?_) AllReadyH.nil
                go_simp
                refine (l6With_any _ _ d i _ HD.out hi9).mono ?_
                rintro e x1 ⟨rfl, hb⟩
                have CS := CS.below hb
                have K5 := K5.below hb K5.lt
                have CR := CR.below hb
                have HL : Hid (LinesN x1 b5 f d v) := HL.out.below hb
                have HO : Hid (OwnsL 27 16 x1 b6 (.slice (some ⟨gg, 0, none⟩) (gQ (gS d i) A x R k).length cap) (gQ (gS d i) A x R k)) := HO.out.below hb
                have HB : Hid (Below w.heap.size w x1) := HB.out.trans (hb.mono HB.out.size)
                have h6a : b6 ≤ x1.heap.size := Nat.le_trans h6x hb.size
                clear hb hHeld h6x
                have HGG := Lib.hid HGV.out
                generalize withF d i (fun j => hS (n * 16 + j)) (fun j => hR2 (k * 4 + j)) = G at *
                go_wp2_with fail
                refine hK.out _ _ ⟨CS, K5, CR⟩ (fun hHeld => ?_)
                clear hK K
                try simp only [Act.put, List.setIfInBounds_toArray, List.set_cons_zero, List.set_cons_succ]
                refine wpAnyH_ready (rs := [14]) (by kernel_rfl) (by simp) ?_
                refine AllReadyH.cons rfl (fun K hK => ?_) AllReadyH.nil
                rw [if_pos (by rfl)]
                refine wp_buildB _ rfl (f := G) rfl ?_
                have K9 := Blk.new x1 16 G 27
                have CS := CS.alloc (.cells (mk 16 G) 27)
                have K5 := K5.alloc (.cells (mk 16 G) 27)
                have CR := CR.alloc (.cells (mk 16 G) 27)
                have HL : Hid (LinesN (x1.alloc (.cells (mk 16 G) 27)) b5 f d v) := HL.out.alloc _
                have HO : Hid (OwnsL 27 16 (x1.alloc (.cells (mk 16 G) 27)) b6 (.slice (some ⟨gg, 0, none⟩) (gQ (gS d i) A x R k).length cap) (gQ (gS d i) A x R k)) := HO.out.alloc _
                have HB : Hid (Below w.heap.size w (x1.alloc (.cells (mk 16 G) 27))) := HB.out.alloc HB.out.size _
                have h6b : b6 ≤ (x1.alloc (.cells (mk 16 G) 27)).heap.size := by simp; omega
                clear hHeld h6a
                generalize x1.alloc (.cells (mk 16 G) 27) = x2 at *
                generalize x1.heap.size = b9 at *
                refine hK.out _ _ ⟨CS, K5, CR⟩ (fun hHeld => ?_)
                clear hK K
                try simp only [Act.put, List.setIfInBounds_toArray, List.set_cons_zero, List.set_cons_succ]
                refine wpAnyH_ready (rs := [15]) (by kernel_rfl) (by simp) ?_
                refine AllReadyH.cons rfl (fun K hK => ?_) AllReadyH.nil
                rw [if_pos (by rfl)]
                refine wp_app (v := .slice (some ⟨gg, 0, none⟩) (gQ (gS d i) A x R k).length cap) _ _ 30 rfl b6 27 i0 _ 16 128 Tryz.underlying30 hi hz0 hz1 hz2 rfl (by decide) rfl HO.out b9 0 1 1 G 16 rfl K9.at (by omega) (by unfold maxLen; omega) (by omega) h6b ?_
                intro v' x3 RR hbl hgr
                obtain ⟨g', cap', hv'⟩ := ownsRow_succ RR
                have HVv : Hid (v' = .slice (some ⟨g', 0, none⟩) (gQ (gS d i) A x R (k + 1)).length cap') := by show _ = _; rw [HGS.out, List.length_append]; exact hv'
                have HO : Hid (OwnsL 27 16 x3 b6 v' (gQ (gS d i) A x R (k + 1))) := by
                  rw [show (mk (1 * 16) fun j => G (0 + j)) = mk 16 G from mk_congr fun j _ => by rw [Nat.zero_add], snoc_walk0, HGG.out] at RR
                  show OwnsL _ _ _ _ _ _
                  rw [HGS.out]
                  unfold OwnsL
                  rw [List.length_append]
                  exact RR
                have CS := CS.low hbl H6S.out
                have K5 := K5.below hbl H65.out
                have CR := CR.low hbl H6L.out
                have HL : Hid (LinesN x3 b5 f d v) := HL.out.low hbl H6N.out
                have HB : Hid (Below w.heap.size w x3) := HB.out.trans (hbl.mono H6W.out)
                have h6c : b6 ≤ x3.heap.size := Nat.le_trans h6b hgr.size
                clear hbl hgr RR hv' hHeld K9
                refine hK.out _ _ ⟨CS, K5, CR⟩ (fun hHeld => ?_)
                clear hK K
                try simp only [Act.put, List.setIfInBounds_toArray, List.set_cons_zero, List.set_cons_succ]
                refine wpAnyH_take (i := 16) (oi := { dst := some 8, op := _, type := _, pos := _, after := _, guard := _ }) (v := v') rfl (by kernel_rfl) (by kernel_rfl) (by kernel_rfl) (fun _ _ _ h => h) (Or.inl ⟨by rfl, by intro w hSw; clear hSw; go_simp; (try with_reducible rfl)⟩) (by assumption) ?_
                try simp only [Act.put, List.setIfInBounds_toArray, List.set_cons_zero, List.set_cons_succ]
                refine wpAnyH_done (by kernel_rfl) ?_ _
                clear hHeld
                go_wp2_with fail
                go_roundg q3
                case rel => exact ⟨k + 1, _, by omega, by go_num, rfl, ⟨g', cap', HVv.out⟩, HO, CS, CR, K5, HL, h6c, HB⟩
                case measure => omega
end Go.Proofs.YtmcmpedmgibmkabGreat
namespace Go.Proofs.YtmcmpedmgibmkabGreat
open Go.RowKit Plain
attribute [local go_sem] store_new

set_option maxHeartbeats 1000000 in
set_option maxRecDepth 20000 in
theorem l2Before_any (f g : Nat → Int) (w : World) :
    Calls Tryz.prog 65 #[.agg (mk 16 f), .agg (mk 16 g)] w fun e w' => e = .returned (.bool (lessB f g)) ∧ Below w.heap.size w w' := by
  have K1 := (Blk.new w 16 f 27).alloc (.cells (mk 16 g) 27)
  have K2 := Blk.new (w.alloc (.cells (mk 16 f) 27)) 16 g 27
  have HB := Lib.hid (((Below.refl w.heap.size w).alloc (Nat.le_refl _) (.cells (mk 16 f) 27)).alloc (by simp) (.cells (mk 16 g) 27))
  simp only [World.size_alloc] at K2
  go_enter Tryz.func65, Tryz.ntmps65
  go_wp2_with fail
  generalize (w.alloc (.cells (mk 16 f) 27)).alloc (.cells (mk 16 g) 27) = w1 at *
  go_loopg [5] 4 (fun n s5 wr => ∃ r : Nat, r + n = 4 ∧ s5 = .int .i64 r ∧ (∀ i, i < r * 4 → f i = g i) ∧ Blk wr w.heap.size 16 f 27 ∧ Blk wr (w.heap.size + 1) 16 g 27 ∧ Hid (Below w.heap.size w wr))
  case atStart => exact ⟨0, by omega, rfl, fun i hi => by omega, K1, K2, HB⟩
  case round =>
    obtain ⟨r, hrg, rfl, he, k1, k2, hb⟩ := hrel
    have HE := Lib.hid he
    clear he
    cases gk with
    | zero =>
      have hr : ¬ ((r : Int) < 4) := by omega
      obtain rfl : r = 4 := by omega
      have HL := Lib.hid (lessB_none HE.out)
      clear hrg hr
      go_wp2_with fail
      go_ret
      exact ⟨by rw [HL.out]; rfl, hb.out⟩
    | succ n =>
      have hr4 : (r : Int) < 4 := by omega
      go_wp2_with fail
      go_loopg [6] 4 (fun m s6 wx => ∃ c : Nat, c + m = 4 ∧ s6 = .int .i64 c ∧ (∀ i, i < r * 4 + c → f i = g i) ∧ Blk wx w.heap.size 16 f 27 ∧ Blk wx (w.heap.size + 1) 16 g 27 ∧ Hid (Below w.heap.size w wx))
      case atStart => exact ⟨0, by omega, rfl, HE.out, k1, k2, hb⟩
      case round =>
        obtain ⟨c, hch, rfl, he, k1, k2, hb⟩ := hrel
        have HE := Lib.hid he
        clear he
        cases gk with
        | zero =>
          have hc : ¬ ((c : Int) < 4) := by omega
          go_wp2_with fail
          go_roundg n
          case rel => exact ⟨r + 1, by omega, by go_num, fun i hi => HE.out i (by omega), k1, k2, hb⟩
          case measure => omega
        | succ m =>
          have hc : (c : Int) < 4 := by omega
          have hr0 : (0 : Int) ≤ (r : Int) := by omega
          have hc0 : (0 : Int) ≤ (c : Int) := by omega
          have c1 := k1.cell (i := r * 4 + c) (by omega)
          have c2 := k2.cell (i := r * 4 + c) (by omega)
          by_cases hq : f (r * 4 + c) = g (r * 4 + c)
          · have HQ := Lib.hid hq
            rw [← hq] at c2
            clear hq
            generalize f (r * 4 + c) = x at c1 c2
            go_wp2_with fail
            go_quiet (fail)
            go_wp2_with fail
            go_roundg m
            case rel => exact ⟨c + 1, by omega, by go_num, fun i hi => by
              by_cases e : i = r * 4 + c
              · subst e; exact HQ.out
              · exact HE.out i (by omega), k1.drewN _, k2.drewN _, below_drewN hb.out _⟩
            case measure => omega
          · have HL := Lib.hid (lessB_at (by omega) HE.out hq)
            have q1 : (f (r * 4 + c) != g (r * 4 + c)) = true := by simpa using hq
            clear hq
            go_wp2_with fail
            go_quiet (fail)
            go_wp2_with fail
            go_quiet (fail)
            go_wp2_with fail
            go_ret
            exact ⟨by rw [HL.out]; rfl, below_drewN (below_drewN hb.out _) _⟩

end Go.Proofs.YtmcmpedmgibmkabGreat
namespace Go.Proofs.YtmcmpedmgibmkabGreat
open Go.RowKit Plain
attribute [local go_sem] Oper.semAt_some
set_option linter.unusedVariables false
set_option linter.unusedSimpArgs false

theorem wp_build0d {P : Program} {w : World} {o : Oper} {a : Act} {K : Act → World → Prop} {Q : Exit → Act → World → Prop} (d : Tmp) (t e : TypeId) (ho : o.op = .buildSlice t 0 #[]) (hd : o.dst = some d) {ie : TypeInfo} {z : Value}
    (ht : P.underlying t = some (.slice e)) (hie : P.info? e = some ie) (hz : ie.zero = some z)
    (h : K (a.put (some d) (.slice (some ⟨w.heap.size, 0, none⟩) 0 0)) (w.alloc (.cells #[] e))) : o.wp P a w K Q := by
  rw [← hd] at h
  exact wp_build0 t e ho ht hie hz h

set_option maxHeartbeats 8000000 in
set_option maxRecDepth 20000 in
theorem l6Sorted_any (gs cs : Nat) (X : List (List Int)) (f : Nat → Int) (w : World) (ha : AllL 16 X) (hnd : X.Nodup) (hn : X.length ≤ 50625) (hc : CAt w gs (X.length * 16) (flatF X)) :
    Calls Tryz.prog 37 #[.slice (some ⟨gs, 0, none⟩) X.length cs, .agg (mk 16 f)] w fun e w' => ∃ g cap, e = .returned (.slice (some ⟨g, 0, none⟩) (insS X (cl 16 f) X.length).length cap) ∧
      OwnsL 27 16 w' w.heap.size (.slice (some ⟨g, 0, none⟩) (insS X (cl 16 f) X.length).length cap) (insS X (cl 16 f) X.length) ∧ Below w.heap.size w w' := by
  obtain ⟨i0, hi, hz0, hz1, hz2⟩ := info_parts infoB
  have K3 := (Blk.new w 16 f 27).alloc (.cells #[] 27)
  have HB := Lib.hid (((Below.refl w.heap.size w).alloc (Nat.le_refl _) (.cells (mk 16 f) 27)).alloc (by simp) (.cells #[] 27))
  have CX := (hc.alloc (.cells (mk 16 f) 27)).alloc (.cells #[] 27)
  have HO : Hid (OwnsL 27 16 ((w.alloc (.cells (mk 16 f) 27)).alloc (.cells #[] 27)) (w.heap.size + 1) (.slice (some ⟨w.heap.size + 1, 0, none⟩) 0 0) []) := by
    have := OwnsL.made (t := 27) (m := 16) (b := w.heap.size + 1) (w.alloc (.cells (mk 16 f) 27)) (by simp)
    simp only [World.size_alloc] at this
    exact this
  have HXA : Hid (∀ n, n < X.length → ∃ x, X[n]? = some x ∧ x.length = 16 ∧ ∀ c, c < 16 → flatF X (n * 16 + c) = fn x c) := fun n hn => ⟨_, List.getElem?_eq_getElem hn, ha _ (List.getElem_mem hn), fun c hc => flatF_at ha (List.getElem?_eq_getElem hn) hc⟩
  have HIA : Hid (∀ n, n ≤ X.length → AllL 16 (insS X (cl 16 f) n)) := fun n hn => insS_all ha _ hn
  have HIS : Hid (∀ n, n ≤ X.length → SS (lt 16) (insS X (cl 16 f) n)) := fun n hn => insS_ss ha _ n hn
  have HIL : Hid (∀ n, (insS X (cl 16 f) n).length ≤ n) := insS_len _
  have HIN : Hid (∀ n x, X[n]? = some x → x ∉ insS X (cl 16 f) n) := fun n x hx => insS_new hnd _ hx
  clear ha hnd hc
  have HW0 : Hid (∀ F : Nat → Int, sameB F f = true ↔ cl 16 F = cl 16 f) := fun F => by rw [sameB_iff, cl_inj]
  generalize hwv : cl 16 f = wv at *
  have HWV := Lib.hid hwv
  clear hwv
  generalize hNX : X.length = nX at *
  generalize hHX : flatF X = hX at *
  go_enter Tryz.func37, Tryz.ntmps37
  go_wp2_with fail
  generalize (w.alloc (.cells (mk 16 f) 27)).alloc (.cells #[] 27) = w1 at *
  go_loopg [5, 6] nX (fun gk s5 s6 wr => ∃ (i : Nat) (u : Value), i + gk = nX ∧ s6 = .int .i64 i ∧ u = s5 ∧ (∃ gg cap, u = .slice (some ⟨gg, 0, none⟩) (insS X wv i).length cap) ∧ Hid (OwnsL 27 16 wr (w.heap.size + 1) u (insS X wv i)) ∧ CAt wr gs (nX * 16) hX ∧ Blk wr w.heap.size 16 f 27 ∧ Hid (Below w.heap.size w wr))
  case atStart => exact ⟨0, _, by omega, rfl, rfl, ⟨_, _, rfl⟩, HO, CX, K3, HB⟩
  case round =>
    clear HO CX K3 HB
    obtain ⟨i, u, hig, rfl, rfl, ⟨gg, cap, hu⟩, HO, CX, K3, HB⟩ := hrel
    subst hu
    cases gk with
    | zero =>
      have hi9 : ¬ ((i : Int) < (nX : Int)) := by omega
      obtain rfl : i = nX := by omega
      go_wp2_with fail
      go_ret
      exact ⟨gg, cap, rfl, HO.out.wide (by omega), HB.out⟩
    | succ q1 =>
      have hi4 : (i : Int) < (nX : Int) := by omega
      have hi0 : (0 : Int) ≤ (i : Int) := by omega
      have hi9 : i < nX := by omega
      obtain ⟨x, hx, hx16, hxc⟩ := HXA.out i hi9
      have HFX : Hid (cl 16 (fun j => hX (i * 16 + j)) = x) := by show _ = _; rw [← cl_fn hx16, cl_inj]; exact hxc
      have HSM : Hid (sameB (fun j => hX (i * 16 + j)) f = true ↔ x = wv) := by rw [← HFX.out]; exact HW0.out _
      have HNI := Lib.hid (HIN.out i x hx)
      have HSK := Lib.hid (fun (e : x = wv) => insS_skip hx e)
      have HST := Lib.hid (fun (e : x ≠ wv) => insS_step hx e)
      have HLA := Lib.hid (HIA.out i (by omega))
      have HLS := Lib.hid (HIS.out i (by omega))
      have hml := HIL.out i
      clear hxc
      obtain ⟨_, _, e1, hcap, CO⟩ := KRow.of_list HLA.out HO.out
      cases e1
      generalize hL : insS X wv i = L at *
      generalize hM : L.length = m at *
      generalize hHO : flatF L = hO at *
      have HLX : Hid (∀ k y, L[k]? = some y → (lt 16 x y = lessB (fun j => hX (i * 16 + j)) (fun j => hO (k * 16 + j)))) := fun k y hy => by
        rw [← HFX.out, ← hHO]
        unfold lt lessB
        rw [Bool.eq_iff_iff, decide_eq_true_iff, decide_eq_true_iff]
        exact lessN_congr (fn_cl _) fun j hj => (flatF_at HLA.out hy hj).symm
      have HGE : Hid (∀ k, k < m → ∃ y, L[k]? = some y) := fun k hk => ⟨_, List.getElem?_eq_getElem (by rw [hM]; exact hk)⟩
      have hgg := (HO.out.lt gg rfl).2
      have hgs := CX.1
      have iE : ∀ (w : World), (Op.equalIn 10000 27 (.agg (mk 16 fun j => hX (i * 16 + j))) (.agg (mk 16 f))).run Tryz.prog w = .ok (sameB (fun j => hX (i * 16 + j)) f) w := fun w => eqB 9996 _ _ w
      generalize hsm : sameB (fun j => hX (i * 16 + j)) f = sm at *
      clear hsm
      go_wp2_with fail
      refine wp_region_held_drew (S := fun W => CAt W gs (nX * 16) hX ∧ Blk W w.heap.size 16 f 27) (by kernel_rfl) (⟨CX.drew, K3.drew⟩) (fun hHeld => ?_)
      refine wpAnyH_take (i := 0) (oi := { dst := some 15, op := _, type := _, pos := _, after := _, guard := _ }) (v := .slice (some ⟨gs, 0, none⟩) nX cs) rfl (by kernel_rfl) (by kernel_rfl) (by kernel_rfl) (fun _ _ _ h => h) (Or.inl ⟨by rfl, by intro w hSw; clear hSw; go_simp; (try with_reducible rfl)⟩) (by assumption) ?_
      try simp only [Act.put, List.setIfInBounds_toArray, List.set_cons_zero, List.set_cons_succ]
      refine wpAnyH_take (i := 1) (oi := { dst := some 16, op := _, type := _, pos := _, after := _, guard := _ }) (v := .int .i64 (i : Int)) rfl (by kernel_rfl) (by kernel_rfl) (by kernel_rfl) (fun _ _ _ h => h) (Or.inl ⟨by rfl, by intro w hSw; clear hSw; go_simp; (try with_reducible rfl)⟩) (by assumption) ?_
      try simp only [Act.put, List.setIfInBounds_toArray, List.set_cons_zero, List.set_cons_succ]
      refine wpAnyH_take (i := 2) (oi := { dst := some 17, op := _, type := _, pos := _, after := _, guard := _ }) (v := .pointer (some ⟨gs, i * 16, none⟩)) rfl (by kernel_rfl) (by kernel_rfl) (by kernel_rfl) (fun _ _ _ h => h) (Or.inl ⟨by rfl, by intro w hSw; clear hSw; go_simp; (try with_reducible rfl)⟩) (by assumption) ?_
      try simp only [Act.put, List.setIfInBounds_toArray, List.set_cons_zero, List.set_cons_succ]
      refine wpAnyH_take (i := 3) (oi := { dst := some 18, op := _, type := _, pos := _, after := _, guard := _ }) (v := .agg (mk 16 fun j => hX (i * 16 + j))) rfl (by kernel_rfl) (by kernel_rfl) (by kernel_rfl) (fun _ _ _ h => h) (Or.inl ⟨by rfl, fun _ q => execAB q.1 (by omega) rfl rfl⟩) (by assumption) ?_
      try simp only [Act.put, List.setIfInBounds_toArray, List.set_cons_zero, List.set_cons_succ]
      refine wpAnyH_take (i := 4) (oi := { dst := some 19, op := _, type := _, pos := _, after := _, guard := _ }) (v := .agg (mk 16 f)) rfl (by kernel_rfl) (by kernel_rfl) (by kernel_rfl) (fun _ _ _ h => h) (Or.inl ⟨by rfl, fun _ q => execB q.2 rfl rfl⟩) (by assumption) ?_
      try simp only [Act.put, List.setIfInBounds_toArray, List.set_cons_zero, List.set_cons_succ]
      refine wpAnyH_take (i := 5) (oi := { dst := some 20, op := _, type := _, pos := _, after := _, guard := _ }) (v := .bool sm) rfl (by kernel_rfl) (by kernel_rfl) (by kernel_rfl) (fun _ _ _ h => h) (Or.inl ⟨by rfl, by intro W hSw; clear hSw; have iE2 := iE W; go_simp⟩) (by assumption) ?_
      try simp only [Act.put, List.setIfInBounds_toArray, List.set_cons_zero, List.set_cons_succ]
      refine wpAnyH_done (by kernel_rfl) ?_ _
      clear hHeld
      clear iE
      have CX : CAt wr.drew gs (nX * 16) hX := CX.drew
      have CO : CAt wr.drew gg (m * 16) hO := CO.drew
      have K3 : Blk wr.drew w.heap.size 16 f 27 := K3.drew
      have HB : Hid (Below w.heap.size w wr.drew) := HB.out.drew
      have HO : Hid (OwnsL 27 16 wr.drew (w.heap.size + 1) (.slice (some ⟨gg, 0, none⟩) m cap) L) := HO.out
      generalize wr.drew = wa at *
      cases sm with
      | true =>
        have HS : Hid (insS X wv (i + 1) = L) := HSK.out (HSM.out.1 rfl)
        go_wp2_with fail
        go_roundg q1
        case rel => exact ⟨i + 1, _, by omega, by go_num, rfl, ⟨gg, cap, by rw [HS.out, hM]⟩, by rw [HS.out]; exact HO, CX, K3, HB⟩
        case measure => omega
      | false =>
        have hne : x ≠ wv := fun e => by have := HSM.out.2 e; cases this
        have HINS : Hid (∀ k, plcL (lt 16) x L = k → insS X wv (i + 1) = L.take k ++ cl 16 (fun j => hX (i * 16 + j)) :: L.drop k) := fun k hk => by
          rw [HST.out hne, HFX.out]; exact ins_at HNI.out hk
        have HPB : Hid (∀ n, n ≤ m → (∀ j y, n ≤ j → L[j]? = some y → lt 16 x y = true) → (n = 0 ∨ ∃ y, L[n - 1]? = some y ∧ lt 16 x y = false) → plcL (lt 16) x L = n) := fun n hn h1 h2 => plc_back HLA.out hx16 HLS.out HNI.out (by rw [hM]; exact hn) h1 h2
        clear hne HSM HSK HST
        go_wp2_with fail
        go_loopg [7] m (fun gn s7 wr => gn ≤ m ∧ s7 = .int .i64 (gn : Nat) ∧ Hid (∀ j y, gn ≤ j → L[j]? = some y → lt 16 x y = true) ∧ Hid (OwnsL 27 16 wr (w.heap.size + 1) (.slice (some ⟨gg, 0, none⟩) m cap) L) ∧ CAt wr gs (nX * 16) hX ∧ CAt wr gg (m * 16) hO ∧ Blk wr w.heap.size 16 f 27 ∧ Hid (Below w.heap.size w wr))
        case atStart => exact ⟨Nat.le_refl _, rfl, fun j y hj hy => by have := (List.getElem?_eq_some_iff.1 hy).1; omega, HO, CX, CO, K3, HB⟩
        case round =>
          clear HO CX CO K3 HB
          obtain ⟨hgm, rfl, HJ, HO, CX, CO, K3, HB⟩ := hrel
          cases gk with
          | zero =>
            have HPL : Hid (plcL (lt 16) x L = 0) := HPB.out 0 (Nat.zero_le _) HJ.out (Or.inl rfl)
            go_wp2_with fail
            refine wp_region_held_drew (S := fun W => CAt W gs (nX * 16) hX ∧ CAt W gg (m * 16) hO) (by kernel_rfl) (⟨CX.drew, CO.drew⟩) (fun hHeld => ?_)
            refine wpAnyH_take (i := 0) (oi := { dst := some 23, op := _, type := _, pos := _, after := _, guard := _ }) (v := .int .i64 ((0 : Nat) : Int)) rfl (by kernel_rfl) (by kernel_rfl) (by kernel_rfl) (fun _ _ _ h => h) (Or.inl ⟨by rfl, by intro w hSw; clear hSw; go_simp; (try with_reducible rfl)⟩) (by assumption) ?_
            try simp only [Act.put, List.setIfInBounds_toArray, List.set_cons_zero, List.set_cons_succ]
            refine wpAnyH_take (i := 1) (oi := { dst := some 24, op := _, type := _, pos := _, after := _, guard := _ }) (v := .bool false) rfl (by kernel_rfl) (by kernel_rfl) (by kernel_rfl) (fun _ _ _ h => h) (Or.inl ⟨by rfl, by intro w hSw; clear hSw; go_simp; (try with_reducible rfl)⟩) (by assumption) ?_
            try simp only [Act.put, List.setIfInBounds_toArray, List.set_cons_zero, List.set_cons_succ]
            refine wpAnyH_take (i := 2) (oi := { dst := some 25, op := _, type := _, pos := _, after := _, guard := _ }) (v := .bool false) rfl (by kernel_rfl) (by kernel_rfl) (by kernel_rfl) (fun _ _ _ h => h) (Or.inl ⟨by rfl, by intro w hSw; clear hSw; go_simp; (try with_reducible rfl)⟩) (by assumption) ?_
            try simp only [Act.put, List.setIfInBounds_toArray, List.set_cons_zero, List.set_cons_succ]
            refine wpAnyH_take (i := 3) (oi := { dst := some 26, op := _, type := _, pos := _, after := _, guard := _ }) (v := undef) rfl (by kernel_rfl) (by kernel_rfl) (by kernel_rfl) (fun _ _ _ h => h) (Or.inr ⟨by rfl, rfl⟩) (by assumption) ?_
            try simp only [Act.put, List.setIfInBounds_toArray, List.set_cons_zero, List.set_cons_succ]
            refine wpAnyH_take (i := 4) (oi := { dst := some 27, op := _, type := _, pos := _, after := _, guard := _ }) (v := undef) rfl (by kernel_rfl) (by kernel_rfl) (by kernel_rfl) (fun _ _ _ h => h) (Or.inr ⟨by rfl, rfl⟩) (by assumption) ?_
            try simp only [Act.put, List.setIfInBounds_toArray, List.set_cons_zero, List.set_cons_succ]
            refine wpAnyH_take (i := 5) (oi := { dst := some 28, op := _, type := _, pos := _, after := _, guard := _ }) (v := undef) rfl (by kernel_rfl) (by kernel_rfl) (by kernel_rfl) (fun _ _ _ h => h) (Or.inr ⟨by rfl, rfl⟩) (by assumption) ?_
            try simp only [Act.put, List.setIfInBounds_toArray, List.set_cons_zero, List.set_cons_succ]
            refine wpAnyH_take (i := 6) (oi := { dst := some 29, op := _, type := _, pos := _, after := _, guard := _ }) (v := undef) rfl (by kernel_rfl) (by kernel_rfl) (by kernel_rfl) (fun _ _ _ h => h) (Or.inr ⟨by rfl, rfl⟩) (by assumption) ?_
            try simp only [Act.put, List.setIfInBounds_toArray, List.set_cons_zero, List.set_cons_succ]
            refine wpAnyH_take (i := 7) (oi := { dst := some 30, op := _, type := _, pos := _, after := _, guard := _ }) (v := undef) rfl (by kernel_rfl) (by kernel_rfl) (by kernel_rfl) (fun _ _ _ h => h) (Or.inr ⟨by rfl, rfl⟩) (by assumption) ?_
            try simp only [Act.put, List.setIfInBounds_toArray, List.set_cons_zero, List.set_cons_succ]
            refine wpAnyH_take (i := 8) (oi := { dst := some 31, op := _, type := _, pos := _, after := _, guard := _ }) (v := undef) rfl (by kernel_rfl) (by kernel_rfl) (by kernel_rfl) (fun _ _ _ h => h) (Or.inr ⟨by rfl, rfl⟩) (by assumption) ?_
            try simp only [Act.put, List.setIfInBounds_toArray, List.set_cons_zero, List.set_cons_succ]
            refine wpAnyH_take (i := 9) (oi := { dst := some 32, op := _, type := _, pos := _, after := _, guard := _ }) (v := undef) rfl (by kernel_rfl) (by kernel_rfl) (by kernel_rfl) (fun _ _ _ h => h) (Or.inr ⟨by rfl, rfl⟩) (by assumption) ?_
            try simp only [Act.put, List.setIfInBounds_toArray, List.set_cons_zero, List.set_cons_succ]
            refine wpAnyH_take (i := 10) (oi := { dst := some 33, op := _, type := _, pos := _, after := _, guard := _ }) (v := undef) rfl (by kernel_rfl) (by kernel_rfl) (by kernel_rfl) (fun _ _ _ h => h) (Or.inr ⟨by rfl, rfl⟩) (by assumption) ?_
            try simp only [Act.put, List.setIfInBounds_toArray, List.set_cons_zero, List.set_cons_succ]
            refine wpAnyH_take (i := 11) (oi := { dst := some 34, op := _, type := _, pos := _, after := _, guard := _ }) (v := undef) rfl (by kernel_rfl) (by kernel_rfl) (by kernel_rfl) (fun _ _ _ h => h) (Or.inr ⟨by rfl, rfl⟩) (by assumption) ?_
            try simp only [Act.put, List.setIfInBounds_toArray, List.set_cons_zero, List.set_cons_succ]
            refine wpAnyH_take (i := 12) (oi := { dst := some 35, op := _, type := _, pos := _, after := _, guard := _ }) (v := undef) rfl (by kernel_rfl) (by kernel_rfl) (by kernel_rfl) (fun _ _ _ h => h) (Or.inr ⟨by rfl, rfl⟩) (by assumption) ?_
            try simp only [Act.put, List.setIfInBounds_toArray, List.set_cons_zero, List.set_cons_succ]
            refine wpAnyH_take (i := 13) (oi := { dst := some 36, op := _, type := _, pos := _, after := _, guard := _ }) (v := .bool false) rfl (by kernel_rfl) (by kernel_rfl) (by kernel_rfl) (fun _ _ _ h => h) (Or.inl ⟨by rfl, by intro w hSw; clear hSw; go_simp; (try with_reducible rfl)⟩) (by assumption) ?_
            try simp only [Act.put, List.setIfInBounds_toArray, List.set_cons_zero, List.set_cons_succ]
            refine wpAnyH_done (by kernel_rfl) ?_ _
            clear hHeld
            have HO : Hid (OwnsL 27 16 wr.drew (w.heap.size + 1) (.slice (some ⟨gg, 0, none⟩) m cap) L) := HO.out
            have CX : CAt wr.drew gs (nX * 16) hX := CX.drew
            have CO : CAt wr.drew gg (m * 16) hO := CO.drew
            have K3 : Blk wr.drew w.heap.size 16 f 27 := K3.drew
            have HB : Hid (Below w.heap.size w wr.drew) := HB.out.drew
            generalize wr.drew = wb at *
            obtain ⟨F, hFF⟩ : ∃ F, F = fun j => hX (i * 16 + j) := ⟨_, rfl⟩
            have HFF : Hid ((fun j => hX (i * 16 + j)) = F) := hFF.symm
            rw [← hFF] at HINS
            clear hFF
            obtain ⟨k, hk0⟩ : ∃ k, k = 0 := ⟨0, rfl⟩
            rw [← hk0] at HPL
            have hkm : k ≤ m := by omega
            rw [show ((0 : Nat) : Int) = (k : Int) by rw [hk0]]
            clear hk0
            have hkc : ¬ (cap < k) := by omega
            have hnk : ¬ ((m : Int) < (k : Int)) := by omega
            obtain ⟨o, HO1, HO2⟩ : ∃ o, Hid (cap = k → o = 0) ∧ Hid (cap ≠ k → o = k * 16) := by
              by_cases hcc : cap = k
              · exact ⟨0, fun _ => rfl, fun q => absurd hcc q⟩
              · exact ⟨k * 16, fun q => absurd q hcc, fun _ => rfl⟩
            have HF : Hid ([] ++ (mk (k * 16) fun j => hO (0 + j)).toList ++ (mk (1 * 16) fun j => F (0 + j)).toList ++ (mk ((m - k) * 16) fun j => hO (o + j)).toList = (L.take k ++ cl 16 F :: L.drop k).flatten.map (Value.int .i64)) := by
              show _ = _
              have := add_flat HLA.out F (k := k) (o := o) (by omega) (by
                by_cases hcc : cap = k
                · exact Or.inl (by omega)
                · exact Or.inr (HO2.out hcc))
              rw [hM, hHO] at this
              exact this.symm
            have ho16 : o + (m - k) * 16 ≤ m * 16 := by
              by_cases hcc : cap = k
              · have := HO1.out hcc; omega
              · have := HO2.out hcc; omega
            go_wp2_with fail
            have A1 : CAt wb.drew gs (nX * 16) hX := CX.drew
            have A2 : CAt wb.drew gg (m * 16) hO := CO.drew
            have A3 : Blk wb.drew w.heap.size 16 f 27 := K3.drew
            have HW : Hid (Below w.heap.size w wb.drew) := HB.out.drew
            refine wp_region_held_drew (S := fun W => CAt W gs (nX * 16) hX ∧ CAt W gg (m * 16) hO) (by kernel_rfl) (⟨A1, A2⟩) (fun hHeld => ?_)
            generalize wb.drew = x0 at *
            obtain ⟨bN, hbN⟩ : ∃ b, b = x0.heap.size := ⟨_, rfl⟩
            have hgsN : gs < bN := by have := A1.1; omega
            have hggN : gg < bN := by have := A2.1; omega
            have hwN : w.heap.size < bN := by have := A3.lt; omega
            have hxx0 : bN ≤ x0.heap.size := by omega
            clear hbN CX CO K3 HB HO
            refine wpAnyH_take (i := 1) (oi := { dst := some 40, op := _, type := _, pos := _, after := _, guard := _ }) (v := .slice (some ⟨gg, 0, none⟩) m cap) rfl (by kernel_rfl) (by kernel_rfl) (by kernel_rfl) (fun _ _ _ h => h) (Or.inl ⟨by rfl, by intro w hSw; clear hSw; go_simp; (try with_reducible rfl)⟩) (by assumption) ?_
            try simp only [Act.put, List.setIfInBounds_toArray, List.set_cons_zero, List.set_cons_succ]
            refine wpAnyH_take (i := 2) (oi := { dst := some 41, op := _, type := _, pos := _, after := _, guard := _ }) (v := .int .i64 (k : Int)) rfl (by kernel_rfl) (by kernel_rfl) (by kernel_rfl) (fun _ _ _ h => h) (Or.inl ⟨by rfl, by intro w hSw; clear hSw; go_simp; (try with_reducible rfl)⟩) (by assumption) ?_
            try simp only [Act.put, List.setIfInBounds_toArray, List.set_cons_zero, List.set_cons_succ]
            refine wpAnyH_take (i := 3) (oi := { dst := some 42, op := _, type := _, pos := _, after := _, guard := _ }) (v := .slice (some ⟨gg, 0, none⟩) k cap) rfl (by kernel_rfl) (by kernel_rfl) (by kernel_rfl) (fun _ _ _ h => h) (Or.inl ⟨by rfl, by intro w hSw; clear hSw; go_simp; (try with_reducible rfl)⟩) (by assumption) ?_
            try simp only [Act.put, List.setIfInBounds_toArray, List.set_cons_zero, List.set_cons_succ]
            refine wpAnyH_take (i := 5) (oi := { dst := some 44, op := _, type := _, pos := _, after := _, guard := _ }) (v := .slice (some ⟨gs, 0, none⟩) nX cs) rfl (by kernel_rfl) (by kernel_rfl) (by kernel_rfl) (fun _ _ _ h => h) (Or.inl ⟨by rfl, by intro w hSw; clear hSw; go_simp; (try with_reducible rfl)⟩) (by assumption) ?_
            try simp only [Act.put, List.setIfInBounds_toArray, List.set_cons_zero, List.set_cons_succ]
            refine wpAnyH_take (i := 6) (oi := { dst := some 45, op := _, type := _, pos := _, after := _, guard := _ }) (v := .int .i64 (i : Int)) rfl (by kernel_rfl) (by kernel_rfl) (by kernel_rfl) (fun _ _ _ h => h) (Or.inl ⟨by rfl, by intro w hSw; clear hSw; go_simp; (try with_reducible rfl)⟩) (by assumption) ?_
            try simp only [Act.put, List.setIfInBounds_toArray, List.set_cons_zero, List.set_cons_succ]
            refine wpAnyH_take (i := 7) (oi := { dst := some 46, op := _, type := _, pos := _, after := _, guard := _ }) (v := .pointer (some ⟨gs, i * 16, none⟩)) rfl (by kernel_rfl) (by kernel_rfl) (by kernel_rfl) (fun _ _ _ h => h) (Or.inl ⟨by rfl, by intro w hSw; clear hSw; go_simp; (try with_reducible rfl)⟩) (by assumption) ?_
            try simp only [Act.put, List.setIfInBounds_toArray, List.set_cons_zero, List.set_cons_succ]
            refine wpAnyH_take (i := 8) (oi := { dst := some 47, op := _, type := _, pos := _, after := _, guard := _ }) (v := .agg (mk 16 F)) rfl (by kernel_rfl) (by kernel_rfl) (by kernel_rfl) (fun _ _ _ h => h) (Or.inl ⟨by rfl, fun _ p => by rw [← HFF.out]; exact execAB p.1 (by omega) rfl rfl⟩) (by assumption) ?_
            try simp only [Act.put, List.setIfInBounds_toArray, List.set_cons_zero, List.set_cons_succ]
            refine wpAnyH_take (i := 11) (oi := { dst := some 50, op := _, type := _, pos := _, after := _, guard := _ }) (v := .slice (some ⟨gg, 0, none⟩) m cap) rfl (by kernel_rfl) (by kernel_rfl) (by kernel_rfl) (fun _ _ _ h => h) (Or.inl ⟨by rfl, by intro w hSw; clear hSw; go_simp; (try with_reducible rfl)⟩) (by assumption) ?_
            try simp only [Act.put, List.setIfInBounds_toArray, List.set_cons_zero, List.set_cons_succ]
            refine wpAnyH_take (i := 12) (oi := { dst := some 51, op := _, type := _, pos := _, after := _, guard := _ }) (v := .int .i64 (k : Int)) rfl (by kernel_rfl) (by kernel_rfl) (by kernel_rfl) (fun _ _ _ h => h) (Or.inl ⟨by rfl, by intro w hSw; clear hSw; go_simp; (try with_reducible rfl)⟩) (by assumption) ?_
            try simp only [Act.put, List.setIfInBounds_toArray, List.set_cons_zero, List.set_cons_succ]
            refine wpAnyH_take (i := 13) (oi := { dst := some 52, op := _, type := _, pos := _, after := _, guard := _ }) (v := .slice (some ⟨gg, o, none⟩) (m - k) (cap - k)) rfl (by kernel_rfl) (by kernel_rfl) (by kernel_rfl) (fun _ _ _ h => h) (Or.inl ⟨by rfl, by
                  intro W hSw
                  clear hSw
                  by_cases hcc : cap = k
                  · have hoo := HO1.out hcc
                    subst hoo
                    go_simp
                  · have hoo := HO2.out hcc
                    subst hoo
                    go_simp⟩) (by assumption) ?_
            try simp only [Act.put, List.setIfInBounds_toArray, List.set_cons_zero, List.set_cons_succ]
            clear HO1 HO2 hHeld
            refine wpAnyH_ready (rs := [0, 9]) (by kernel_rfl) (by simp) ?_
            refine AllReadyH.cons rfl (fun K hK => ?_) ?_
            · rw [if_pos (by rfl)]
              refine wp_build0d 39 30 27 rfl rfl Tryz.underlying30 hi hz0 ?_
              have R0 : (x0.alloc (.cells #[] 27)).ownsRow bN 27 16 (.slice (some ⟨x0.heap.size, 0, none⟩) 0 0) 0 [] := World.ownsRow_made (base := bN) (e := 27) (size := 16) x0 #[] 0 hxx0 (by decide) rfl
              have A1 := A1.alloc (.cells #[] 27)
              have A2 := A2.alloc (.cells #[] 27)
              have A3 := A3.alloc (.cells #[] 27)
              have HW : Hid (Below w.heap.size w (x0.alloc (.cells #[] 27))) := HW.out.alloc HW.out.size _
              have hxx1 : bN ≤ (x0.alloc (.cells #[] 27)).heap.size := by simp; omega
              have HB0 : Hid (x0.heap.size < (x0.alloc (.cells #[] 27)).heap.size) := by show _ < _; simp
              generalize x0.alloc (.cells #[] 27) = x1 at *
              generalize x0.heap.size = b0 at *
              refine hK.out _ _ ⟨A1, A2⟩ (fun hHeld => ?_)
              clear hK K hHeld
              try simp only [Act.put, List.setIfInBounds_toArray, List.set_cons_zero, List.set_cons_succ]
              refine wpAnyH_ready (rs := [4, 9]) (by kernel_rfl) (by simp) ?_
              refine AllReadyH.cons rfl (fun K hK => ?_) ?_
              · rw [if_pos (by rfl)]
                refine wp_app (v := .slice (some ⟨b0, 0, none⟩) 0 0) _ _ 30 rfl bN 27 i0 _ 16 128 Tryz.underlying30 hi hz0 hz1 hz2 rfl (by decide) rfl R0 gg 0 k cap hO (m * 16) rfl A2 (by omega) (by unfold maxLen; omega) (by omega) hxx1 ?_
                intro v1 x2 R1 hbl hgr
                have A1 := A1.low hbl hgsN
                have A2 := A2.low hbl hggN
                have A3 := A3.below hbl hwN
                have HW : Hid (Below w.heap.size w x2) := HW.out.trans (hbl.mono (by omega))
                have hxx2 : bN ≤ x2.heap.size := Nat.le_trans hxx1 hgr.size
                have HV1 : Hid (∀ b, v1.ownBlock = some b → b < x2.heap.size) := fun b e => (R1.lt b e).2
                clear hbl hgr R0
                have R0 := R1
                clear R1
                refine hK.out _ _ ⟨A1, A2⟩ (fun hHeld => ?_)
                clear hK K hHeld
                try simp only [Act.put, List.setIfInBounds_toArray, List.set_cons_zero, List.set_cons_succ]
                refine wpAnyH_ready (rs := [9]) (by kernel_rfl) (by simp) ?_
                refine AllReadyH.cons rfl (fun K hK => ?_) AllReadyH.nil
                rw [if_pos (by rfl)]
                refine wp_buildBd 48 _ rfl rfl (f := F) rfl ?_
                have K9 := Blk.new x2 16 F 27
                have R0 : (x2.alloc (.cells (mk 16 F) 27)).ownsRow bN 27 16 v1 (0 + k) ([] ++ (mk (k * 16) fun j => hO (0 + j)).toList) := World.ownsRow.alloc R0 _
                have A1 := A1.alloc (.cells (mk 16 F) 27)
                have A2 := A2.alloc (.cells (mk 16 F) 27)
                have A3 := A3.alloc (.cells (mk 16 F) 27)
                have HW : Hid (Below w.heap.size w (x2.alloc (.cells (mk 16 F) 27))) := HW.out.alloc HW.out.size _
                have hxx3 : bN ≤ (x2.alloc (.cells (mk 16 F) 27)).heap.size := by simp; omega
                have H9 : Hid (x2.heap.size < (x2.alloc (.cells (mk 16 F) 27)).heap.size ∧ bN ≤ x2.heap.size) := by show _ ∧ _; simp; omega
                have HN9 : Hid (v1.ownBlock ≠ some x2.heap.size) := by show _ ≠ _; intro e; have := HV1.out _ e; omega
                generalize x2.alloc (.cells (mk 16 F) 27) = x3 at *
                generalize x2.heap.size = b9 at *
                refine hK.out _ _ ⟨A1, A2⟩ (fun hHeld => ?_)
                clear hK K hHeld
                try simp only [Act.put, List.setIfInBounds_toArray, List.set_cons_zero, List.set_cons_succ]
                refine wpAnyH_ready (rs := [10]) (by kernel_rfl) (by simp) ?_
                refine AllReadyH.cons rfl (fun K hK => ?_) AllReadyH.nil
                rw [if_pos (by rfl)]
                refine wp_app (v := v1) _ _ 30 rfl bN 27 i0 _ 16 128 Tryz.underlying30 hi hz0 hz1 hz2 rfl (by decide) rfl R0 b9 0 1 1 F 16 rfl K9.at (by omega) (by unfold maxLen; omega) (by omega) hxx3 ?_
                intro v2 x4 R1 hbl hgr
                have A1 := A1.low hbl hgsN
                have A2 := A2.low hbl hggN
                have A3 := A3.below hbl hwN
                have HW : Hid (Below w.heap.size w x4) := HW.out.trans (hbl.mono (by omega))
                have hxx4 : bN ≤ x4.heap.size := Nat.le_trans hxx3 hgr.size
                clear hbl hgr R0 K9
                have R0 := R1
                clear R1
                refine hK.out _ _ ⟨A1, A2⟩ (fun hHeld => ?_)
                clear hK K hHeld
                try simp only [Act.put, List.setIfInBounds_toArray, List.set_cons_zero, List.set_cons_succ]
                refine wpAnyH_ready (rs := [14]) (by kernel_rfl) (by simp) ?_
                refine AllReadyH.cons rfl (fun K hK => ?_) AllReadyH.nil
                rw [if_pos (by rfl)]
                refine wp_app (v := v2) _ _ 30 rfl bN 27 i0 _ 16 128 Tryz.underlying30 hi hz0 hz1 hz2 rfl (by decide) rfl R0 gg o (m - k) (cap - k) hO (m * 16) rfl A2 (by omega) (by unfold maxLen; omega) (by omega) hxx4 ?_
                intro v3 x5 R1 hbl hgr
                have A1 := A1.low hbl hgsN
                have A2 := A2.low hbl hggN
                have A3 := A3.below hbl hwN
                have HW : Hid (Below w.heap.size w x5) := HW.out.trans (hbl.mono (by omega))
                clear hbl hgr R0
                have R0 := R1
                clear R1
                refine hK.out _ _ ⟨A1, A2⟩ (fun hHeld => ?_)
                clear hK K
                try simp only [Act.put, List.setIfInBounds_toArray, List.set_cons_zero, List.set_cons_succ]
                refine wpAnyH_take (i := 15) (oi := { dst := some 5, op := _, type := _, pos := _, after := _, guard := _ }) (v := v3) rfl (by kernel_rfl) (by kernel_rfl) (by kernel_rfl) (fun _ _ _ h => h) (Or.inl ⟨by rfl, by intro w hSw; clear hSw; go_simp; (try with_reducible rfl)⟩) (by assumption) ?_
                try simp only [Act.put, List.setIfInBounds_toArray, List.set_cons_zero, List.set_cons_succ]
                refine wpAnyH_done (by kernel_rfl) ?_ _
                clear hHeld
                rw [show 0 + k + 1 + (m - k) = m + 1 by omega, HF.out] at R0
                obtain ⟨g', cap', hv'⟩ := ownsRow_succ R0
                have HV := Lib.hid hv'
                have HR3 := Lib.hid R0
                have HIL : Hid (insS X wv (i + 1) = L.take k ++ cl 16 F :: L.drop k) := HINS.out k HPL.out
                have HLL : Hid ((insS X wv (i + 1)).length = m + 1) := by show _ = _; rw [HIL.out, List.length_append, List.length_cons, List.length_take, List.length_drop, hM]; omega
                have HO : Hid (OwnsL 27 16 x5 (w.heap.size + 1) v3 (insS X wv (i + 1))) := by
                  show OwnsL _ _ _ _ _ _
                  unfold OwnsL
                  rw [HLL.out, HIL.out]
                  exact ownsRow_wide HR3.out (by omega)
                clear hv' R0
                go_wp2_with fail
                go_roundg q1
                case rel => exact ⟨i + 1, _, by omega, by go_num, rfl, ⟨g', cap', by rw [HLL.out]; exact HV.out⟩, HO, A1, A3, HW⟩
                case measure => omega
              refine AllReadyH.cons rfl (fun K hK => ?_) AllReadyH.nil
              rw [if_pos (by rfl)]
              refine wp_buildBd 48 _ rfl rfl (f := F) rfl ?_
              have K9 := Blk.new x1 16 F 27
              have R0 : (x1.alloc (.cells (mk 16 F) 27)).ownsRow bN 27 16 (.slice (some ⟨b0, 0, none⟩) 0 0) 0 [] := World.ownsRow.alloc R0 _
              have A1 := A1.alloc (.cells (mk 16 F) 27)
              have A2 := A2.alloc (.cells (mk 16 F) 27)
              have A3 := A3.alloc (.cells (mk 16 F) 27)
              have HW : Hid (Below w.heap.size w (x1.alloc (.cells (mk 16 F) 27))) := HW.out.alloc HW.out.size _
              have hxx2 : bN ≤ (x1.alloc (.cells (mk 16 F) 27)).heap.size := by simp; omega
              have H9 : Hid (x1.heap.size < (x1.alloc (.cells (mk 16 F) 27)).heap.size ∧ bN ≤ x1.heap.size) := by show _ ∧ _; simp; omega
              have HN9 : Hid (b0 ≠ x1.heap.size) := by have := HB0.out; show _ ≠ _; omega
              generalize x1.alloc (.cells (mk 16 F) 27) = x2 at *
              generalize x1.heap.size = b9 at *
              refine hK.out _ _ ⟨A1, A2⟩ (fun hHeld => ?_)
              clear hK K hHeld
              try simp only [Act.put, List.setIfInBounds_toArray, List.set_cons_zero, List.set_cons_succ]
              refine wpAnyH_ready (rs := [4]) (by kernel_rfl) (by simp) ?_
              refine AllReadyH.cons rfl (fun K hK => ?_) AllReadyH.nil
              rw [if_pos (by rfl)]
              refine wp_app (v := .slice (some ⟨b0, 0, none⟩) 0 0) _ _ 30 rfl bN 27 i0 _ 16 128 Tryz.underlying30 hi hz0 hz1 hz2 rfl (by decide) rfl R0 gg 0 k cap hO (m * 16) rfl A2 (by omega) (by unfold maxLen; omega) (by omega) hxx2 ?_
              intro v1 x3 R1 hbl hgr
              have K9 := K9.grown hgr (by intro e; simp only [Value.ownBlock, Option.some.injEq] at e; exact HN9.out e.symm)
              clear HN9
              have A1 := A1.low hbl hgsN
              have A2 := A2.low hbl hggN
              have A3 := A3.below hbl hwN
              have HW : Hid (Below w.heap.size w x3) := HW.out.trans (hbl.mono (by omega))
              have hxx3 : bN ≤ x3.heap.size := Nat.le_trans hxx2 hgr.size
              have HV1 : Hid (∀ b, v1.ownBlock = some b → b < x3.heap.size) := fun b e => (R1.lt b e).2
              clear hbl hgr R0
              have R0 := R1
              clear R1
              refine hK.out _ _ ⟨A1, A2⟩ (fun hHeld => ?_)
              clear hK K hHeld
              try simp only [Act.put, List.setIfInBounds_toArray, List.set_cons_zero, List.set_cons_succ]
              refine wpAnyH_ready (rs := [10]) (by kernel_rfl) (by simp) ?_
              refine AllReadyH.cons rfl (fun K hK => ?_) AllReadyH.nil
              rw [if_pos (by rfl)]
              refine wp_app (v := v1) _ _ 30 rfl bN 27 i0 _ 16 128 Tryz.underlying30 hi hz0 hz1 hz2 rfl (by decide) rfl R0 b9 0 1 1 F 16 rfl K9.at (by omega) (by unfold maxLen; omega) (by omega) hxx3 ?_
              intro v2 x4 R1 hbl hgr
              have A1 := A1.low hbl hgsN
              have A2 := A2.low hbl hggN
              have A3 := A3.below hbl hwN
              have HW : Hid (Below w.heap.size w x4) := HW.out.trans (hbl.mono (by omega))
              have hxx4 : bN ≤ x4.heap.size := Nat.le_trans hxx3 hgr.size
              clear hbl hgr R0 K9
              have R0 := R1
              clear R1
              refine hK.out _ _ ⟨A1, A2⟩ (fun hHeld => ?_)
              clear hK K hHeld
              try simp only [Act.put, List.setIfInBounds_toArray, List.set_cons_zero, List.set_cons_succ]
              refine wpAnyH_ready (rs := [14]) (by kernel_rfl) (by simp) ?_
              refine AllReadyH.cons rfl (fun K hK => ?_) AllReadyH.nil
              rw [if_pos (by rfl)]
              refine wp_app (v := v2) _ _ 30 rfl bN 27 i0 _ 16 128 Tryz.underlying30 hi hz0 hz1 hz2 rfl (by decide) rfl R0 gg o (m - k) (cap - k) hO (m * 16) rfl A2 (by omega) (by unfold maxLen; omega) (by omega) hxx4 ?_
              intro v3 x5 R1 hbl hgr
              have A1 := A1.low hbl hgsN
              have A2 := A2.low hbl hggN
              have A3 := A3.below hbl hwN
              have HW : Hid (Below w.heap.size w x5) := HW.out.trans (hbl.mono (by omega))
              clear hbl hgr R0
              have R0 := R1
              clear R1
              refine hK.out _ _ ⟨A1, A2⟩ (fun hHeld => ?_)
              clear hK K
              try simp only [Act.put, List.setIfInBounds_toArray, List.set_cons_zero, List.set_cons_succ]
              refine wpAnyH_take (i := 15) (oi := { dst := some 5, op := _, type := _, pos := _, after := _, guard := _ }) (v := v3) rfl (by kernel_rfl) (by kernel_rfl) (by kernel_rfl) (fun _ _ _ h => h) (Or.inl ⟨by rfl, by intro w hSw; clear hSw; go_simp; (try with_reducible rfl)⟩) (by assumption) ?_
              try simp only [Act.put, List.setIfInBounds_toArray, List.set_cons_zero, List.set_cons_succ]
              refine wpAnyH_done (by kernel_rfl) ?_ _
              clear hHeld
              rw [show 0 + k + 1 + (m - k) = m + 1 by omega, HF.out] at R0
              obtain ⟨g', cap', hv'⟩ := ownsRow_succ R0
              have HV := Lib.hid hv'
              have HR3 := Lib.hid R0
              have HIL : Hid (insS X wv (i + 1) = L.take k ++ cl 16 F :: L.drop k) := HINS.out k HPL.out
              have HLL : Hid ((insS X wv (i + 1)).length = m + 1) := by show _ = _; rw [HIL.out, List.length_append, List.length_cons, List.length_take, List.length_drop, hM]; omega
              have HO : Hid (OwnsL 27 16 x5 (w.heap.size + 1) v3 (insS X wv (i + 1))) := by
                show OwnsL _ _ _ _ _ _
                unfold OwnsL
                rw [HLL.out, HIL.out]
                exact ownsRow_wide HR3.out (by omega)
              clear hv' R0
              go_wp2_with fail
              go_roundg q1
              case rel => exact ⟨i + 1, _, by omega, by go_num, rfl, ⟨g', cap', by rw [HLL.out]; exact HV.out⟩, HO, A1, A3, HW⟩
              case measure => omega
            refine AllReadyH.cons rfl (fun K hK => ?_) AllReadyH.nil
            rw [if_pos (by rfl)]
            refine wp_buildBd 48 _ rfl rfl (f := F) rfl ?_
            have K9 := Blk.new x0 16 F 27
            have A1 := A1.alloc (.cells (mk 16 F) 27)
            have A2 := A2.alloc (.cells (mk 16 F) 27)
            have A3 := A3.alloc (.cells (mk 16 F) 27)
            have HW : Hid (Below w.heap.size w (x0.alloc (.cells (mk 16 F) 27))) := HW.out.alloc HW.out.size _
            have hxx1 : bN ≤ (x0.alloc (.cells (mk 16 F) 27)).heap.size := by simp; omega
            have H9 : Hid (x0.heap.size < (x0.alloc (.cells (mk 16 F) 27)).heap.size ∧ bN ≤ x0.heap.size) := by show _ ∧ _; simp; omega
            generalize x0.alloc (.cells (mk 16 F) 27) = x1 at *
            generalize x0.heap.size = b9 at *
            refine hK.out _ _ ⟨A1, A2⟩ (fun hHeld => ?_)
            clear hK K hHeld
            try simp only [Act.put, List.setIfInBounds_toArray, List.set_cons_zero, List.set_cons_succ]
            refine wpAnyH_ready (rs := [0]) (by kernel_rfl) (by simp) ?_
            refine AllReadyH.cons rfl (fun K hK => ?_) AllReadyH.nil
            rw [if_pos (by rfl)]
            refine wp_build0d 39 30 27 rfl rfl Tryz.underlying30 hi hz0 ?_
            have R0 : (x1.alloc (.cells #[] 27)).ownsRow bN 27 16 (.slice (some ⟨x1.heap.size, 0, none⟩) 0 0) 0 [] := World.ownsRow_made (base := bN) (e := 27) (size := 16) x1 #[] 0 hxx1 (by decide) rfl
            have K9 := K9.alloc (.cells #[] 27)
            have HN9 : Hid (x1.heap.size ≠ b9) := by have := (K9.lt : b9 < _); have h0 := H9.out; show _ ≠ _; omega
            have A1 := A1.alloc (.cells #[] 27)
            have A2 := A2.alloc (.cells #[] 27)
            have A3 := A3.alloc (.cells #[] 27)
            have HW : Hid (Below w.heap.size w (x1.alloc (.cells #[] 27))) := HW.out.alloc HW.out.size _
            have hxx2 : bN ≤ (x1.alloc (.cells #[] 27)).heap.size := by simp; omega
            have H9b : Hid (b9 < (x1.alloc (.cells #[] 27)).heap.size ∧ bN ≤ b9) := ⟨K9.lt, H9.out.2⟩
            clear H9
            have H9 := H9b
            clear H9b
            have HB0 : Hid (x1.heap.size < (x1.alloc (.cells #[] 27)).heap.size) := by show _ < _; simp
            generalize x1.alloc (.cells #[] 27) = x2 at *
            generalize x1.heap.size = b0 at *
            refine hK.out _ _ ⟨A1, A2⟩ (fun hHeld => ?_)
            clear hK K hHeld
            try simp only [Act.put, List.setIfInBounds_toArray, List.set_cons_zero, List.set_cons_succ]
            refine wpAnyH_ready (rs := [4]) (by kernel_rfl) (by simp) ?_
            refine AllReadyH.cons rfl (fun K hK => ?_) AllReadyH.nil
            rw [if_pos (by rfl)]
            refine wp_app (v := .slice (some ⟨b0, 0, none⟩) 0 0) _ _ 30 rfl bN 27 i0 _ 16 128 Tryz.underlying30 hi hz0 hz1 hz2 rfl (by decide) rfl R0 gg 0 k cap hO (m * 16) rfl A2 (by omega) (by unfold maxLen; omega) (by omega) hxx2 ?_
            intro v1 x3 R1 hbl hgr
            have K9 := K9.grown hgr (by intro e; simp only [Value.ownBlock, Option.some.injEq] at e; exact HN9.out e.symm)
            clear HN9
            have A1 := A1.low hbl hgsN
            have A2 := A2.low hbl hggN
            have A3 := A3.below hbl hwN
            have HW : Hid (Below w.heap.size w x3) := HW.out.trans (hbl.mono (by omega))
            have hxx3 : bN ≤ x3.heap.size := Nat.le_trans hxx2 hgr.size
            have HV1 : Hid (∀ b, v1.ownBlock = some b → b < x3.heap.size) := fun b e => (R1.lt b e).2
            clear hbl hgr R0
            have R0 := R1
            clear R1
            refine hK.out _ _ ⟨A1, A2⟩ (fun hHeld => ?_)
            clear hK K hHeld
            try simp only [Act.put, List.setIfInBounds_toArray, List.set_cons_zero, List.set_cons_succ]
            refine wpAnyH_ready (rs := [10]) (by kernel_rfl) (by simp) ?_
            refine AllReadyH.cons rfl (fun K hK => ?_) AllReadyH.nil
            rw [if_pos (by rfl)]
            refine wp_app (v := v1) _ _ 30 rfl bN 27 i0 _ 16 128 Tryz.underlying30 hi hz0 hz1 hz2 rfl (by decide) rfl R0 b9 0 1 1 F 16 rfl K9.at (by omega) (by unfold maxLen; omega) (by omega) hxx3 ?_
            intro v2 x4 R1 hbl hgr
            have A1 := A1.low hbl hgsN
            have A2 := A2.low hbl hggN
            have A3 := A3.below hbl hwN
            have HW : Hid (Below w.heap.size w x4) := HW.out.trans (hbl.mono (by omega))
            have hxx4 : bN ≤ x4.heap.size := Nat.le_trans hxx3 hgr.size
            clear hbl hgr R0 K9
            have R0 := R1
            clear R1
            refine hK.out _ _ ⟨A1, A2⟩ (fun hHeld => ?_)
            clear hK K hHeld
            try simp only [Act.put, List.setIfInBounds_toArray, List.set_cons_zero, List.set_cons_succ]
            refine wpAnyH_ready (rs := [14]) (by kernel_rfl) (by simp) ?_
            refine AllReadyH.cons rfl (fun K hK => ?_) AllReadyH.nil
            rw [if_pos (by rfl)]
            refine wp_app (v := v2) _ _ 30 rfl bN 27 i0 _ 16 128 Tryz.underlying30 hi hz0 hz1 hz2 rfl (by decide) rfl R0 gg o (m - k) (cap - k) hO (m * 16) rfl A2 (by omega) (by unfold maxLen; omega) (by omega) hxx4 ?_
            intro v3 x5 R1 hbl hgr
            have A1 := A1.low hbl hgsN
            have A2 := A2.low hbl hggN
            have A3 := A3.below hbl hwN
            have HW : Hid (Below w.heap.size w x5) := HW.out.trans (hbl.mono (by omega))
            clear hbl hgr R0
            have R0 := R1
            clear R1
            refine hK.out _ _ ⟨A1, A2⟩ (fun hHeld => ?_)
            clear hK K
            try simp only [Act.put, List.setIfInBounds_toArray, List.set_cons_zero, List.set_cons_succ]
            refine wpAnyH_take (i := 15) (oi := { dst := some 5, op := _, type := _, pos := _, after := _, guard := _ }) (v := v3) rfl (by kernel_rfl) (by kernel_rfl) (by kernel_rfl) (fun _ _ _ h => h) (Or.inl ⟨by rfl, by intro w hSw; clear hSw; go_simp; (try with_reducible rfl)⟩) (by assumption) ?_
            try simp only [Act.put, List.setIfInBounds_toArray, List.set_cons_zero, List.set_cons_succ]
            refine wpAnyH_done (by kernel_rfl) ?_ _
            clear hHeld
            rw [show 0 + k + 1 + (m - k) = m + 1 by omega, HF.out] at R0
            obtain ⟨g', cap', hv'⟩ := ownsRow_succ R0
            have HV := Lib.hid hv'
            have HR3 := Lib.hid R0
            have HIL : Hid (insS X wv (i + 1) = L.take k ++ cl 16 F :: L.drop k) := HINS.out k HPL.out
            have HLL : Hid ((insS X wv (i + 1)).length = m + 1) := by show _ = _; rw [HIL.out, List.length_append, List.length_cons, List.length_take, List.length_drop, hM]; omega
            have HO : Hid (OwnsL 27 16 x5 (w.heap.size + 1) v3 (insS X wv (i + 1))) := by
              show OwnsL _ _ _ _ _ _
              unfold OwnsL
              rw [HLL.out, HIL.out]
              exact ownsRow_wide HR3.out (by omega)
            clear hv' R0
            go_wp2_with fail
            go_roundg q1
            case rel => exact ⟨i + 1, _, by omega, by go_num, rfl, ⟨g', cap', by rw [HLL.out]; exact HV.out⟩, HO, A1, A3, HW⟩
            case measure => omega
          | succ q =>
            have hq0 : (0 : Int) < ((q + 1 : Nat) : Int) := by omega
            have hqm : q < m := by omega
            have hqi : (q : Int) < (m : Int) := by omega
            have hqi0 : (0 : Int) ≤ (q : Int) := by omega
            have hwq : IntKind.i64.wrap (q : Int) = (q : Int) := IntWalk.i64_in _ (by omega)
            have hw : IntKind.i64.wrap (((q + 1 : Nat) : Int) - 1) = (q : Int) := by rw [IntWalk.i64_in _ (by omega)]; omega
            obtain ⟨y, hy⟩ := HGE.out q hqm
            have HY := Lib.hid hy
            have HLY := Lib.hid (HLX.out q y hy)
            clear hy
            go_wp2_with fail
            refine wp_region_held_drew (S := fun W => CAt W gs (nX * 16) hX ∧ CAt W gg (m * 16) hO) (by kernel_rfl) (⟨CX.drew, CO.drew⟩) (fun hHeld => ?_)
            have CX : CAt wr.drew gs (nX * 16) hX := CX.drew
            have CO : CAt wr.drew gg (m * 16) hO := CO.drew
            have K3 : Blk wr.drew w.heap.size 16 f 27 := K3.drew
            have HB : Hid (Below w.heap.size w wr.drew) := HB.out.drew
            have HO : Hid (OwnsL 27 16 wr.drew (w.heap.size + 1) (.slice (some ⟨gg, 0, none⟩) m cap) L) := HO.out
            generalize wr.drew = x0 at *
            refine wpAnyH_take (i := 0) (oi := { dst := some 23, op := _, type := _, pos := _, after := _, guard := _ }) (v := .int .i64 ((q + 1 : Nat) : Int)) rfl (by kernel_rfl) (by kernel_rfl) (by kernel_rfl) (fun _ _ _ h => h) (Or.inl ⟨by rfl, by intro w hSw; clear hSw; go_simp; (try with_reducible rfl)⟩) (by assumption) ?_
            try simp only [Act.put, List.setIfInBounds_toArray, List.set_cons_zero, List.set_cons_succ]
            refine wpAnyH_take (i := 1) (oi := { dst := some 24, op := _, type := _, pos := _, after := _, guard := _ }) (v := .bool true) rfl (by kernel_rfl) (by kernel_rfl) (by kernel_rfl) (fun _ _ _ h => h) (Or.inl ⟨by rfl, by intro w hSw; clear hSw; go_simp; (try with_reducible rfl)⟩) (by assumption) ?_
            try simp only [Act.put, List.setIfInBounds_toArray, List.set_cons_zero, List.set_cons_succ]
            refine wpAnyH_take (i := 2) (oi := { dst := some 25, op := _, type := _, pos := _, after := _, guard := _ }) (v := .bool true) rfl (by kernel_rfl) (by kernel_rfl) (by kernel_rfl) (fun _ _ _ h => h) (Or.inl ⟨by rfl, by intro w hSw; clear hSw; go_simp; (try with_reducible rfl)⟩) (by assumption) ?_
            try simp only [Act.put, List.setIfInBounds_toArray, List.set_cons_zero, List.set_cons_succ]
            refine wpAnyH_take (i := 3) (oi := { dst := some 26, op := _, type := _, pos := _, after := _, guard := _ }) (v := .slice (some ⟨gs, 0, none⟩) nX cs) rfl (by kernel_rfl) (by kernel_rfl) (by kernel_rfl) (fun _ _ _ h => h) (Or.inl ⟨by rfl, by intro w hSw; clear hSw; go_simp; (try with_reducible rfl)⟩) (by assumption) ?_
            try simp only [Act.put, List.setIfInBounds_toArray, List.set_cons_zero, List.set_cons_succ]
            refine wpAnyH_take (i := 4) (oi := { dst := some 27, op := _, type := _, pos := _, after := _, guard := _ }) (v := .int .i64 (i : Int)) rfl (by kernel_rfl) (by kernel_rfl) (by kernel_rfl) (fun _ _ _ h => h) (Or.inl ⟨by rfl, by intro w hSw; clear hSw; go_simp; (try with_reducible rfl)⟩) (by assumption) ?_
            try simp only [Act.put, List.setIfInBounds_toArray, List.set_cons_zero, List.set_cons_succ]
            refine wpAnyH_take (i := 5) (oi := { dst := some 28, op := _, type := _, pos := _, after := _, guard := _ }) (v := .pointer (some ⟨gs, i * 16, none⟩)) rfl (by kernel_rfl) (by kernel_rfl) (by kernel_rfl) (fun _ _ _ h => h) (Or.inl ⟨by rfl, by intro w hSw; clear hSw; go_simp; (try with_reducible rfl)⟩) (by assumption) ?_
            try simp only [Act.put, List.setIfInBounds_toArray, List.set_cons_zero, List.set_cons_succ]
            refine wpAnyH_take (i := 6) (oi := { dst := some 29, op := _, type := _, pos := _, after := _, guard := _ }) (v := .agg (mk 16 fun j => hX (i * 16 + j))) rfl (by kernel_rfl) (by kernel_rfl) (by kernel_rfl) (fun _ _ _ h => h) (Or.inl ⟨by rfl, fun _ p => execAB p.1 (by omega) rfl rfl⟩) (by assumption) ?_
            try simp only [Act.put, List.setIfInBounds_toArray, List.set_cons_zero, List.set_cons_succ]
            refine wpAnyH_take (i := 7) (oi := { dst := some 30, op := _, type := _, pos := _, after := _, guard := _ }) (v := .slice (some ⟨gg, 0, none⟩) m cap) rfl (by kernel_rfl) (by kernel_rfl) (by kernel_rfl) (fun _ _ _ h => h) (Or.inl ⟨by rfl, by intro w hSw; clear hSw; go_simp; (try with_reducible rfl)⟩) (by assumption) ?_
            try simp only [Act.put, List.setIfInBounds_toArray, List.set_cons_zero, List.set_cons_succ]
            refine wpAnyH_take (i := 8) (oi := { dst := some 31, op := _, type := _, pos := _, after := _, guard := _ }) (v := .int .i64 ((q + 1 : Nat) : Int)) rfl (by kernel_rfl) (by kernel_rfl) (by kernel_rfl) (fun _ _ _ h => h) (Or.inl ⟨by rfl, by intro w hSw; clear hSw; go_simp; (try with_reducible rfl)⟩) (by assumption) ?_
            try simp only [Act.put, List.setIfInBounds_toArray, List.set_cons_zero, List.set_cons_succ]
            refine wpAnyH_take (i := 9) (oi := { dst := some 32, op := _, type := _, pos := _, after := _, guard := _ }) (v := .int .i64 (q : Int)) rfl (by kernel_rfl) (by kernel_rfl) (by kernel_rfl) (fun _ _ _ h => h) (Or.inl ⟨by rfl, by intro w hSw; clear hSw; go_simp; (try with_reducible rfl)⟩) (by assumption) ?_
            try simp only [Act.put, List.setIfInBounds_toArray, List.set_cons_zero, List.set_cons_succ]
            refine wpAnyH_take (i := 10) (oi := { dst := some 33, op := _, type := _, pos := _, after := _, guard := _ }) (v := .pointer (some ⟨gg, q * 16, none⟩)) rfl (by kernel_rfl) (by kernel_rfl) (by kernel_rfl) (fun _ _ _ h => h) (Or.inl ⟨by rfl, by intro w hSw; clear hSw; go_simp; (try with_reducible rfl)⟩) (by assumption) ?_
            try simp only [Act.put, List.setIfInBounds_toArray, List.set_cons_zero, List.set_cons_succ]
            refine wpAnyH_take (i := 11) (oi := { dst := some 34, op := _, type := _, pos := _, after := _, guard := _ }) (v := .agg (mk 16 fun j => hO (q * 16 + j))) rfl (by kernel_rfl) (by kernel_rfl) (by kernel_rfl) (fun _ _ _ h => h) (Or.inl ⟨by rfl, fun _ p => execAB p.2 (by omega) rfl rfl⟩) (by assumption) ?_
            try simp only [Act.put, List.setIfInBounds_toArray, List.set_cons_zero, List.set_cons_succ]
            refine wpAnyH_ready (rs := [12]) (by kernel_rfl) (by simp) ?_
            refine AllReadyH.cons rfl (fun K hK => ?_) AllReadyH.nil
            go_simp
            refine (l2Before_any _ _ _).mono ?_
            rintro e x1 ⟨rfl, hb6⟩
            have CX := CX.below hb6
            have CO := CO.below hb6
            have K3 := K3.below hb6 K3.lt
            have HO : Hid (OwnsL 27 16 x1 (w.heap.size + 1) (.slice (some ⟨gg, 0, none⟩) m cap) L) := HO.out.below hb6
            have HB : Hid (Below w.heap.size w x1) := HB.out.trans (hb6.mono HB.out.size)
            clear hb6 hHeld
            generalize hlb : lessB (fun j => hX (i * 16 + j)) (fun j => hO (q * 16 + j)) = lb at *
            have HLB := Lib.hid hlb
            clear hlb
            go_wp2_with fail
            refine hK.out _ _ ⟨CX, CO⟩ (fun hHeld => ?_)
            clear hK K
            try simp only [Act.put, List.setIfInBounds_toArray, List.set_cons_zero, List.set_cons_succ]
            refine wpAnyH_take (i := 13) (oi := { dst := some 36, op := _, type := _, pos := _, after := _, guard := _ }) (v := .bool lb) rfl (by kernel_rfl) (by kernel_rfl) (by kernel_rfl) (fun _ _ _ h => h) (Or.inl ⟨by rfl, by intro w hSw; clear hSw; go_simp; (try with_reducible rfl)⟩) (by assumption) ?_
            try simp only [Act.put, List.setIfInBounds_toArray, List.set_cons_zero, List.set_cons_succ]
            refine wpAnyH_done (by kernel_rfl) ?_ _
            clear hHeld
            cases lb with
            | true =>
              have HJ2 : Hid (∀ j y, q ≤ j → L[j]? = some y → lt 16 x y = true) := fun j z hj hz => by
                rcases (by omega : q + 1 ≤ j ∨ j = q) with p | rfl
                · exact HJ.out j z p hz
                · rw [HY.out] at hz; cases hz; exact HLY.out
              go_wp2_with fail
              go_roundg q
              case rel => exact ⟨by omega, by go_num, HJ2, HO, CX, CO, K3, HB⟩
              case measure => omega
            | false =>
              have HPL : Hid (plcL (lt 16) x L = q + 1) := HPB.out (q + 1) hgm HJ.out (Or.inr ⟨y, by rw [Nat.add_sub_cancel]; exact HY.out, HLY.out⟩)
              obtain ⟨F, hFF⟩ : ∃ F, F = fun j => hX (i * 16 + j) := ⟨_, rfl⟩
              have HFF : Hid ((fun j => hX (i * 16 + j)) = F) := hFF.symm
              rw [← hFF] at HINS
              clear hFF
              obtain ⟨k, hk0⟩ : ∃ k, k = q + 1 := ⟨_, rfl⟩
              rw [← hk0] at HPL
              have hkm : k ≤ m := by omega
              try rw [show ((q + 1 : Nat) : Int) = (k : Int) by rw [hk0]]
              try rw [show (q : Int) + 1 = (k : Int) by omega]
              clear hw hwq hk0
              have hkc : ¬ (cap < k) := by omega
              have hnk : ¬ ((m : Int) < (k : Int)) := by omega
              obtain ⟨o, HO1, HO2⟩ : ∃ o, Hid (cap = k → o = 0) ∧ Hid (cap ≠ k → o = k * 16) := by
                by_cases hcc : cap = k
                · exact ⟨0, fun _ => rfl, fun q => absurd hcc q⟩
                · exact ⟨k * 16, fun q => absurd q hcc, fun _ => rfl⟩
              have HF : Hid ([] ++ (mk (k * 16) fun j => hO (0 + j)).toList ++ (mk (1 * 16) fun j => F (0 + j)).toList ++ (mk ((m - k) * 16) fun j => hO (o + j)).toList = (L.take k ++ cl 16 F :: L.drop k).flatten.map (Value.int .i64)) := by
                show _ = _
                have := add_flat HLA.out F (k := k) (o := o) (by omega) (by
                  by_cases hcc : cap = k
                  · exact Or.inl (by omega)
                  · exact Or.inr (HO2.out hcc))
                rw [hM, hHO] at this
                exact this.symm
              have ho16 : o + (m - k) * 16 ≤ m * 16 := by
                by_cases hcc : cap = k
                · have := HO1.out hcc; omega
                · have := HO2.out hcc; omega
              go_wp2_with fail
              have A1 : CAt x1.drew gs (nX * 16) hX := CX.drew
              have A2 : CAt x1.drew gg (m * 16) hO := CO.drew
              have A3 : Blk x1.drew w.heap.size 16 f 27 := K3.drew
              have HW : Hid (Below w.heap.size w x1.drew) := HB.out.drew
              refine wp_region_held_drew (S := fun W => CAt W gs (nX * 16) hX ∧ CAt W gg (m * 16) hO) (by kernel_rfl) (⟨A1, A2⟩) (fun hHeld => ?_)
              generalize x1.drew = x0 at *
              obtain ⟨bN, hbN⟩ : ∃ b, b = x0.heap.size := ⟨_, rfl⟩
              have hgsN : gs < bN := by have := A1.1; omega
              have hggN : gg < bN := by have := A2.1; omega
              have hwN : w.heap.size < bN := by have := A3.lt; omega
              have hxx0 : bN ≤ x0.heap.size := by omega
              clear hbN CX CO K3 HB HO
              refine wpAnyH_take (i := 1) (oi := { dst := some 40, op := _, type := _, pos := _, after := _, guard := _ }) (v := .slice (some ⟨gg, 0, none⟩) m cap) rfl (by kernel_rfl) (by kernel_rfl) (by kernel_rfl) (fun _ _ _ h => h) (Or.inl ⟨by rfl, by intro w hSw; clear hSw; go_simp; (try with_reducible rfl)⟩) (by assumption) ?_
              try simp only [Act.put, List.setIfInBounds_toArray, List.set_cons_zero, List.set_cons_succ]
              refine wpAnyH_take (i := 2) (oi := { dst := some 41, op := _, type := _, pos := _, after := _, guard := _ }) (v := .int .i64 (k : Int)) rfl (by kernel_rfl) (by kernel_rfl) (by kernel_rfl) (fun _ _ _ h => h) (Or.inl ⟨by rfl, by intro w hSw; clear hSw; go_simp; (try with_reducible rfl)⟩) (by assumption) ?_
              try simp only [Act.put, List.setIfInBounds_toArray, List.set_cons_zero, List.set_cons_succ]
              refine wpAnyH_take (i := 3) (oi := { dst := some 42, op := _, type := _, pos := _, after := _, guard := _ }) (v := .slice (some ⟨gg, 0, none⟩) k cap) rfl (by kernel_rfl) (by kernel_rfl) (by kernel_rfl) (fun _ _ _ h => h) (Or.inl ⟨by rfl, by intro w hSw; clear hSw; go_simp; (try with_reducible rfl)⟩) (by assumption) ?_
              try simp only [Act.put, List.setIfInBounds_toArray, List.set_cons_zero, List.set_cons_succ]
              refine wpAnyH_take (i := 5) (oi := { dst := some 44, op := _, type := _, pos := _, after := _, guard := _ }) (v := .slice (some ⟨gs, 0, none⟩) nX cs) rfl (by kernel_rfl) (by kernel_rfl) (by kernel_rfl) (fun _ _ _ h => h) (Or.inl ⟨by rfl, by intro w hSw; clear hSw; go_simp; (try with_reducible rfl)⟩) (by assumption) ?_
              try simp only [Act.put, List.setIfInBounds_toArray, List.set_cons_zero, List.set_cons_succ]
              refine wpAnyH_take (i := 6) (oi := { dst := some 45, op := _, type := _, pos := _, after := _, guard := _ }) (v := .int .i64 (i : Int)) rfl (by kernel_rfl) (by kernel_rfl) (by kernel_rfl) (fun _ _ _ h => h) (Or.inl ⟨by rfl, by intro w hSw; clear hSw; go_simp; (try with_reducible rfl)⟩) (by assumption) ?_
              try simp only [Act.put, List.setIfInBounds_toArray, List.set_cons_zero, List.set_cons_succ]
              refine wpAnyH_take (i := 7) (oi := { dst := some 46, op := _, type := _, pos := _, after := _, guard := _ }) (v := .pointer (some ⟨gs, i * 16, none⟩)) rfl (by kernel_rfl) (by kernel_rfl) (by kernel_rfl) (fun _ _ _ h => h) (Or.inl ⟨by rfl, by intro w hSw; clear hSw; go_simp; (try with_reducible rfl)⟩) (by assumption) ?_
              try simp only [Act.put, List.setIfInBounds_toArray, List.set_cons_zero, List.set_cons_succ]
              refine wpAnyH_take (i := 8) (oi := { dst := some 47, op := _, type := _, pos := _, after := _, guard := _ }) (v := .agg (mk 16 F)) rfl (by kernel_rfl) (by kernel_rfl) (by kernel_rfl) (fun _ _ _ h => h) (Or.inl ⟨by rfl, fun _ p => by rw [← HFF.out]; exact execAB p.1 (by omega) rfl rfl⟩) (by assumption) ?_
              try simp only [Act.put, List.setIfInBounds_toArray, List.set_cons_zero, List.set_cons_succ]
              refine wpAnyH_take (i := 11) (oi := { dst := some 50, op := _, type := _, pos := _, after := _, guard := _ }) (v := .slice (some ⟨gg, 0, none⟩) m cap) rfl (by kernel_rfl) (by kernel_rfl) (by kernel_rfl) (fun _ _ _ h => h) (Or.inl ⟨by rfl, by intro w hSw; clear hSw; go_simp; (try with_reducible rfl)⟩) (by assumption) ?_
              try simp only [Act.put, List.setIfInBounds_toArray, List.set_cons_zero, List.set_cons_succ]
              refine wpAnyH_take (i := 12) (oi := { dst := some 51, op := _, type := _, pos := _, after := _, guard := _ }) (v := .int .i64 (k : Int)) rfl (by kernel_rfl) (by kernel_rfl) (by kernel_rfl) (fun _ _ _ h => h) (Or.inl ⟨by rfl, by intro w hSw; clear hSw; go_simp; (try with_reducible rfl)⟩) (by assumption) ?_
              try simp only [Act.put, List.setIfInBounds_toArray, List.set_cons_zero, List.set_cons_succ]
              refine wpAnyH_take (i := 13) (oi := { dst := some 52, op := _, type := _, pos := _, after := _, guard := _ }) (v := .slice (some ⟨gg, o, none⟩) (m - k) (cap - k)) rfl (by kernel_rfl) (by kernel_rfl) (by kernel_rfl) (fun _ _ _ h => h) (Or.inl ⟨by rfl, by
                    intro W hSw
                    clear hSw
                    by_cases hcc : cap = k
                    · have hoo := HO1.out hcc
                      subst hoo
                      go_simp
                    · have hoo := HO2.out hcc
                      subst hoo
                      go_simp⟩) (by assumption) ?_
              try simp only [Act.put, List.setIfInBounds_toArray, List.set_cons_zero, List.set_cons_succ]
              clear HO1 HO2 hHeld
              refine wpAnyH_ready (rs := [0, 9]) (by kernel_rfl) (by simp) ?_
              refine AllReadyH.cons rfl (fun K hK => ?_) ?_
              · rw [if_pos (by rfl)]
                refine wp_build0d 39 30 27 rfl rfl Tryz.underlying30 hi hz0 ?_
                have R0 : (x0.alloc (.cells #[] 27)).ownsRow bN 27 16 (.slice (some ⟨x0.heap.size, 0, none⟩) 0 0) 0 [] := World.ownsRow_made (base := bN) (e := 27) (size := 16) x0 #[] 0 hxx0 (by decide) rfl
                have A1 := A1.alloc (.cells #[] 27)
                have A2 := A2.alloc (.cells #[] 27)
                have A3 := A3.alloc (.cells #[] 27)
                have HW : Hid (Below w.heap.size w (x0.alloc (.cells #[] 27))) := HW.out.alloc HW.out.size _
                have hxx1 : bN ≤ (x0.alloc (.cells #[] 27)).heap.size := by simp; omega
                have HB0 : Hid (x0.heap.size < (x0.alloc (.cells #[] 27)).heap.size) := by show _ < _; simp
                generalize x0.alloc (.cells #[] 27) = x1 at *
                generalize x0.heap.size = b0 at *
                refine hK.out _ _ ⟨A1, A2⟩ (fun hHeld => ?_)
                clear hK K hHeld
                try simp only [Act.put, List.setIfInBounds_toArray, List.set_cons_zero, List.set_cons_succ]
                refine wpAnyH_ready (rs := [4, 9]) (by kernel_rfl) (by simp) ?_
                refine AllReadyH.cons rfl (fun K hK => ?_) ?_
                · rw [if_pos (by rfl)]
                  refine wp_app (v := .slice (some ⟨b0, 0, none⟩) 0 0) _ _ 30 rfl bN 27 i0 _ 16 128 Tryz.underlying30 hi hz0 hz1 hz2 rfl (by decide) rfl R0 gg 0 k cap hO (m * 16) rfl A2 (by omega) (by unfold maxLen; omega) (by omega) hxx1 ?_
                  intro v1 x2 R1 hbl hgr
                  have A1 := A1.low hbl hgsN
                  have A2 := A2.low hbl hggN
                  have A3 := A3.below hbl hwN
                  have HW : Hid (Below w.heap.size w x2) := HW.out.trans (hbl.mono (by omega))
                  have hxx2 : bN ≤ x2.heap.size := Nat.le_trans hxx1 hgr.size
                  have HV1 : Hid (∀ b, v1.ownBlock = some b → b < x2.heap.size) := fun b e => (R1.lt b e).2
                  clear hbl hgr R0
                  have R0 := R1
                  clear R1
                  refine hK.out _ _ ⟨A1, A2⟩ (fun hHeld => ?_)
                  clear hK K hHeld
                  try simp only [Act.put, List.setIfInBounds_toArray, List.set_cons_zero, List.set_cons_succ]
                  refine wpAnyH_ready (rs := [9]) (by kernel_rfl) (by simp) ?_
                  refine AllReadyH.cons rfl (fun K hK => ?_) AllReadyH.nil
                  rw [if_pos (by rfl)]
                  refine wp_buildBd 48 _ rfl rfl (f := F) rfl ?_
                  have K9 := Blk.new x2 16 F 27
                  have R0 : (x2.alloc (.cells (mk 16 F) 27)).ownsRow bN 27 16 v1 (0 + k) ([] ++ (mk (k * 16) fun j => hO (0 + j)).toList) := World.ownsRow.alloc R0 _
                  have A1 := A1.alloc (.cells (mk 16 F) 27)
                  have A2 := A2.alloc (.cells (mk 16 F) 27)
                  have A3 := A3.alloc (.cells (mk 16 F) 27)
                  have HW : Hid (Below w.heap.size w (x2.alloc (.cells (mk 16 F) 27))) := HW.out.alloc HW.out.size _
                  have hxx3 : bN ≤ (x2.alloc (.cells (mk 16 F) 27)).heap.size := by simp; omega
                  have H9 : Hid (x2.heap.size < (x2.alloc (.cells (mk 16 F) 27)).heap.size ∧ bN ≤ x2.heap.size) := by show _ ∧ _; simp; omega
                  have HN9 : Hid (v1.ownBlock ≠ some x2.heap.size) := by show _ ≠ _; intro e; have := HV1.out _ e; omega
                  generalize x2.alloc (.cells (mk 16 F) 27) = x3 at *
                  generalize x2.heap.size = b9 at *
                  refine hK.out _ _ ⟨A1, A2⟩ (fun hHeld => ?_)
                  clear hK K hHeld
                  try simp only [Act.put, List.setIfInBounds_toArray, List.set_cons_zero, List.set_cons_succ]
                  refine wpAnyH_ready (rs := [10]) (by kernel_rfl) (by simp) ?_
                  refine AllReadyH.cons rfl (fun K hK => ?_) AllReadyH.nil
                  rw [if_pos (by rfl)]
                  refine wp_app (v := v1) _ _ 30 rfl bN 27 i0 _ 16 128 Tryz.underlying30 hi hz0 hz1 hz2 rfl (by decide) rfl R0 b9 0 1 1 F 16 rfl K9.at (by omega) (by unfold maxLen; omega) (by omega) hxx3 ?_
                  intro v2 x4 R1 hbl hgr
                  have A1 := A1.low hbl hgsN
                  have A2 := A2.low hbl hggN
                  have A3 := A3.below hbl hwN
                  have HW : Hid (Below w.heap.size w x4) := HW.out.trans (hbl.mono (by omega))
                  have hxx4 : bN ≤ x4.heap.size := Nat.le_trans hxx3 hgr.size
                  clear hbl hgr R0 K9
                  have R0 := R1
                  clear R1
                  refine hK.out _ _ ⟨A1, A2⟩ (fun hHeld => ?_)
                  clear hK K hHeld
                  try simp only [Act.put, List.setIfInBounds_toArray, List.set_cons_zero, List.set_cons_succ]
                  refine wpAnyH_ready (rs := [14]) (by kernel_rfl) (by simp) ?_
                  refine AllReadyH.cons rfl (fun K hK => ?_) AllReadyH.nil
                  rw [if_pos (by rfl)]
                  refine wp_app (v := v2) _ _ 30 rfl bN 27 i0 _ 16 128 Tryz.underlying30 hi hz0 hz1 hz2 rfl (by decide) rfl R0 gg o (m - k) (cap - k) hO (m * 16) rfl A2 (by omega) (by unfold maxLen; omega) (by omega) hxx4 ?_
                  intro v3 x5 R1 hbl hgr
                  have A1 := A1.low hbl hgsN
                  have A2 := A2.low hbl hggN
                  have A3 := A3.below hbl hwN
                  have HW : Hid (Below w.heap.size w x5) := HW.out.trans (hbl.mono (by omega))
                  clear hbl hgr R0
                  have R0 := R1
                  clear R1
                  refine hK.out _ _ ⟨A1, A2⟩ (fun hHeld => ?_)
                  clear hK K
                  try simp only [Act.put, List.setIfInBounds_toArray, List.set_cons_zero, List.set_cons_succ]
                  refine wpAnyH_take (i := 15) (oi := { dst := some 5, op := _, type := _, pos := _, after := _, guard := _ }) (v := v3) rfl (by kernel_rfl) (by kernel_rfl) (by kernel_rfl) (fun _ _ _ h => h) (Or.inl ⟨by rfl, by intro w hSw; clear hSw; go_simp; (try with_reducible rfl)⟩) (by assumption) ?_
                  try simp only [Act.put, List.setIfInBounds_toArray, List.set_cons_zero, List.set_cons_succ]
                  refine wpAnyH_done (by kernel_rfl) ?_ _
                  clear hHeld
                  rw [show 0 + k + 1 + (m - k) = m + 1 by omega, HF.out] at R0
                  obtain ⟨g', cap', hv'⟩ := ownsRow_succ R0
                  have HV := Lib.hid hv'
                  have HR3 := Lib.hid R0
                  have HIL : Hid (insS X wv (i + 1) = L.take k ++ cl 16 F :: L.drop k) := HINS.out k HPL.out
                  have HLL : Hid ((insS X wv (i + 1)).length = m + 1) := by show _ = _; rw [HIL.out, List.length_append, List.length_cons, List.length_take, List.length_drop, hM]; omega
                  have HO : Hid (OwnsL 27 16 x5 (w.heap.size + 1) v3 (insS X wv (i + 1))) := by
                    show OwnsL _ _ _ _ _ _
                    unfold OwnsL
                    rw [HLL.out, HIL.out]
                    exact ownsRow_wide HR3.out (by omega)
                  clear hv' R0
                  go_wp2_with fail
                  go_roundg q1
                  case rel => exact ⟨i + 1, _, by omega, by go_num, rfl, ⟨g', cap', by rw [HLL.out]; exact HV.out⟩, HO, A1, A3, HW⟩
                  case measure => omega
                refine AllReadyH.cons rfl (fun K hK => ?_) AllReadyH.nil
                rw [if_pos (by rfl)]
                refine wp_buildBd 48 _ rfl rfl (f := F) rfl ?_
                have K9 := Blk.new x1 16 F 27
                have R0 : (x1.alloc (.cells (mk 16 F) 27)).ownsRow bN 27 16 (.slice (some ⟨b0, 0, none⟩) 0 0) 0 [] := World.ownsRow.alloc R0 _
                have A1 := A1.alloc (.cells (mk 16 F) 27)
                have A2 := A2.alloc (.cells (mk 16 F) 27)
                have A3 := A3.alloc (.cells (mk 16 F) 27)
                have HW : Hid (Below w.heap.size w (x1.alloc (.cells (mk 16 F) 27))) := HW.out.alloc HW.out.size _
                have hxx2 : bN ≤ (x1.alloc (.cells (mk 16 F) 27)).heap.size := by simp; omega
                have H9 : Hid (x1.heap.size < (x1.alloc (.cells (mk 16 F) 27)).heap.size ∧ bN ≤ x1.heap.size) := by show _ ∧ _; simp; omega
                have HN9 : Hid (b0 ≠ x1.heap.size) := by have := HB0.out; show _ ≠ _; omega
                generalize x1.alloc (.cells (mk 16 F) 27) = x2 at *
                generalize x1.heap.size = b9 at *
                refine hK.out _ _ ⟨A1, A2⟩ (fun hHeld => ?_)
                clear hK K hHeld
                try simp only [Act.put, List.setIfInBounds_toArray, List.set_cons_zero, List.set_cons_succ]
                refine wpAnyH_ready (rs := [4]) (by kernel_rfl) (by simp) ?_
                refine AllReadyH.cons rfl (fun K hK => ?_) AllReadyH.nil
                rw [if_pos (by rfl)]
                refine wp_app (v := .slice (some ⟨b0, 0, none⟩) 0 0) _ _ 30 rfl bN 27 i0 _ 16 128 Tryz.underlying30 hi hz0 hz1 hz2 rfl (by decide) rfl R0 gg 0 k cap hO (m * 16) rfl A2 (by omega) (by unfold maxLen; omega) (by omega) hxx2 ?_
                intro v1 x3 R1 hbl hgr
                have K9 := K9.grown hgr (by intro e; simp only [Value.ownBlock, Option.some.injEq] at e; exact HN9.out e.symm)
                clear HN9
                have A1 := A1.low hbl hgsN
                have A2 := A2.low hbl hggN
                have A3 := A3.below hbl hwN
                have HW : Hid (Below w.heap.size w x3) := HW.out.trans (hbl.mono (by omega))
                have hxx3 : bN ≤ x3.heap.size := Nat.le_trans hxx2 hgr.size
                have HV1 : Hid (∀ b, v1.ownBlock = some b → b < x3.heap.size) := fun b e => (R1.lt b e).2
                clear hbl hgr R0
                have R0 := R1
                clear R1
                refine hK.out _ _ ⟨A1, A2⟩ (fun hHeld => ?_)
                clear hK K hHeld
                try simp only [Act.put, List.setIfInBounds_toArray, List.set_cons_zero, List.set_cons_succ]
                refine wpAnyH_ready (rs := [10]) (by kernel_rfl) (by simp) ?_
                refine AllReadyH.cons rfl (fun K hK => ?_) AllReadyH.nil
                rw [if_pos (by rfl)]
                refine wp_app (v := v1) _ _ 30 rfl bN 27 i0 _ 16 128 Tryz.underlying30 hi hz0 hz1 hz2 rfl (by decide) rfl R0 b9 0 1 1 F 16 rfl K9.at (by omega) (by unfold maxLen; omega) (by omega) hxx3 ?_
                intro v2 x4 R1 hbl hgr
                have A1 := A1.low hbl hgsN
                have A2 := A2.low hbl hggN
                have A3 := A3.below hbl hwN
                have HW : Hid (Below w.heap.size w x4) := HW.out.trans (hbl.mono (by omega))
                have hxx4 : bN ≤ x4.heap.size := Nat.le_trans hxx3 hgr.size
                clear hbl hgr R0 K9
                have R0 := R1
                clear R1
                refine hK.out _ _ ⟨A1, A2⟩ (fun hHeld => ?_)
                clear hK K hHeld
                try simp only [Act.put, List.setIfInBounds_toArray, List.set_cons_zero, List.set_cons_succ]
                refine wpAnyH_ready (rs := [14]) (by kernel_rfl) (by simp) ?_
                refine AllReadyH.cons rfl (fun K hK => ?_) AllReadyH.nil
                rw [if_pos (by rfl)]
                refine wp_app (v := v2) _ _ 30 rfl bN 27 i0 _ 16 128 Tryz.underlying30 hi hz0 hz1 hz2 rfl (by decide) rfl R0 gg o (m - k) (cap - k) hO (m * 16) rfl A2 (by omega) (by unfold maxLen; omega) (by omega) hxx4 ?_
                intro v3 x5 R1 hbl hgr
                have A1 := A1.low hbl hgsN
                have A2 := A2.low hbl hggN
                have A3 := A3.below hbl hwN
                have HW : Hid (Below w.heap.size w x5) := HW.out.trans (hbl.mono (by omega))
                clear hbl hgr R0
                have R0 := R1
                clear R1
                refine hK.out _ _ ⟨A1, A2⟩ (fun hHeld => ?_)
                clear hK K
                try simp only [Act.put, List.setIfInBounds_toArray, List.set_cons_zero, List.set_cons_succ]
                refine wpAnyH_take (i := 15) (oi := { dst := some 5, op := _, type := _, pos := _, after := _, guard := _ }) (v := v3) rfl (by kernel_rfl) (by kernel_rfl) (by kernel_rfl) (fun _ _ _ h => h) (Or.inl ⟨by rfl, by intro w hSw; clear hSw; go_simp; (try with_reducible rfl)⟩) (by assumption) ?_
                try simp only [Act.put, List.setIfInBounds_toArray, List.set_cons_zero, List.set_cons_succ]
                refine wpAnyH_done (by kernel_rfl) ?_ _
                clear hHeld
                rw [show 0 + k + 1 + (m - k) = m + 1 by omega, HF.out] at R0
                obtain ⟨g', cap', hv'⟩ := ownsRow_succ R0
                have HV := Lib.hid hv'
                have HR3 := Lib.hid R0
                have HIL : Hid (insS X wv (i + 1) = L.take k ++ cl 16 F :: L.drop k) := HINS.out k HPL.out
                have HLL : Hid ((insS X wv (i + 1)).length = m + 1) := by show _ = _; rw [HIL.out, List.length_append, List.length_cons, List.length_take, List.length_drop, hM]; omega
                have HO : Hid (OwnsL 27 16 x5 (w.heap.size + 1) v3 (insS X wv (i + 1))) := by
                  show OwnsL _ _ _ _ _ _
                  unfold OwnsL
                  rw [HLL.out, HIL.out]
                  exact ownsRow_wide HR3.out (by omega)
                clear hv' R0
                go_wp2_with fail
                go_roundg q1
                case rel => exact ⟨i + 1, _, by omega, by go_num, rfl, ⟨g', cap', by rw [HLL.out]; exact HV.out⟩, HO, A1, A3, HW⟩
                case measure => omega
              refine AllReadyH.cons rfl (fun K hK => ?_) AllReadyH.nil
              rw [if_pos (by rfl)]
              refine wp_buildBd 48 _ rfl rfl (f := F) rfl ?_
              have K9 := Blk.new x0 16 F 27
              have A1 := A1.alloc (.cells (mk 16 F) 27)
              have A2 := A2.alloc (.cells (mk 16 F) 27)
              have A3 := A3.alloc (.cells (mk 16 F) 27)
              have HW : Hid (Below w.heap.size w (x0.alloc (.cells (mk 16 F) 27))) := HW.out.alloc HW.out.size _
              have hxx1 : bN ≤ (x0.alloc (.cells (mk 16 F) 27)).heap.size := by simp; omega
              have H9 : Hid (x0.heap.size < (x0.alloc (.cells (mk 16 F) 27)).heap.size ∧ bN ≤ x0.heap.size) := by show _ ∧ _; simp; omega
              generalize x0.alloc (.cells (mk 16 F) 27) = x1 at *
              generalize x0.heap.size = b9 at *
              refine hK.out _ _ ⟨A1, A2⟩ (fun hHeld => ?_)
              clear hK K hHeld
              try simp only [Act.put, List.setIfInBounds_toArray, List.set_cons_zero, List.set_cons_succ]
              refine wpAnyH_ready (rs := [0]) (by kernel_rfl) (by simp) ?_
              refine AllReadyH.cons rfl (fun K hK => ?_) AllReadyH.nil
              rw [if_pos (by rfl)]
              refine wp_build0d 39 30 27 rfl rfl Tryz.underlying30 hi hz0 ?_
              have R0 : (x1.alloc (.cells #[] 27)).ownsRow bN 27 16 (.slice (some ⟨x1.heap.size, 0, none⟩) 0 0) 0 [] := World.ownsRow_made (base := bN) (e := 27) (size := 16) x1 #[] 0 hxx1 (by decide) rfl
              have K9 := K9.alloc (.cells #[] 27)
              have HN9 : Hid (x1.heap.size ≠ b9) := by have := (K9.lt : b9 < _); have h0 := H9.out; show _ ≠ _; omega
              have A1 := A1.alloc (.cells #[] 27)
              have A2 := A2.alloc (.cells #[] 27)
              have A3 := A3.alloc (.cells #[] 27)
              have HW : Hid (Below w.heap.size w (x1.alloc (.cells #[] 27))) := HW.out.alloc HW.out.size _
              have hxx2 : bN ≤ (x1.alloc (.cells #[] 27)).heap.size := by simp; omega
              have H9b : Hid (b9 < (x1.alloc (.cells #[] 27)).heap.size ∧ bN ≤ b9) := ⟨K9.lt, H9.out.2⟩
              clear H9
              have H9 := H9b
              clear H9b
              have HB0 : Hid (x1.heap.size < (x1.alloc (.cells #[] 27)).heap.size) := by show _ < _; simp
              generalize x1.alloc (.cells #[] 27) = x2 at *
              generalize x1.heap.size = b0 at *
              refine hK.out _ _ ⟨A1, A2⟩ (fun hHeld => ?_)
              clear hK K hHeld
              try simp only [Act.put, List.setIfInBounds_toArray, List.set_cons_zero, List.set_cons_succ]
              refine wpAnyH_ready (rs := [4]) (by kernel_rfl) (by simp) ?_
              refine AllReadyH.cons rfl (fun K hK => ?_) AllReadyH.nil
              rw [if_pos (by rfl)]
              refine wp_app (v := .slice (some ⟨b0, 0, none⟩) 0 0) _ _ 30 rfl bN 27 i0 _ 16 128 Tryz.underlying30 hi hz0 hz1 hz2 rfl (by decide) rfl R0 gg 0 k cap hO (m * 16) rfl A2 (by omega) (by unfold maxLen; omega) (by omega) hxx2 ?_
              intro v1 x3 R1 hbl hgr
              have K9 := K9.grown hgr (by intro e; simp only [Value.ownBlock, Option.some.injEq] at e; exact HN9.out e.symm)
              clear HN9
              have A1 := A1.low hbl hgsN
              have A2 := A2.low hbl hggN
              have A3 := A3.below hbl hwN
              have HW : Hid (Below w.heap.size w x3) := HW.out.trans (hbl.mono (by omega))
              have hxx3 : bN ≤ x3.heap.size := Nat.le_trans hxx2 hgr.size
              have HV1 : Hid (∀ b, v1.ownBlock = some b → b < x3.heap.size) := fun b e => (R1.lt b e).2
              clear hbl hgr R0
              have R0 := R1
              clear R1
              refine hK.out _ _ ⟨A1, A2⟩ (fun hHeld => ?_)
              clear hK K hHeld
              try simp only [Act.put, List.setIfInBounds_toArray, List.set_cons_zero, List.set_cons_succ]
              refine wpAnyH_ready (rs := [10]) (by kernel_rfl) (by simp) ?_
              refine AllReadyH.cons rfl (fun K hK => ?_) AllReadyH.nil
              rw [if_pos (by rfl)]
              refine wp_app (v := v1) _ _ 30 rfl bN 27 i0 _ 16 128 Tryz.underlying30 hi hz0 hz1 hz2 rfl (by decide) rfl R0 b9 0 1 1 F 16 rfl K9.at (by omega) (by unfold maxLen; omega) (by omega) hxx3 ?_
              intro v2 x4 R1 hbl hgr
              have A1 := A1.low hbl hgsN
              have A2 := A2.low hbl hggN
              have A3 := A3.below hbl hwN
              have HW : Hid (Below w.heap.size w x4) := HW.out.trans (hbl.mono (by omega))
              have hxx4 : bN ≤ x4.heap.size := Nat.le_trans hxx3 hgr.size
              clear hbl hgr R0 K9
              have R0 := R1
              clear R1
              refine hK.out _ _ ⟨A1, A2⟩ (fun hHeld => ?_)
              clear hK K hHeld
              try simp only [Act.put, List.setIfInBounds_toArray, List.set_cons_zero, List.set_cons_succ]
              refine wpAnyH_ready (rs := [14]) (by kernel_rfl) (by simp) ?_
              refine AllReadyH.cons rfl (fun K hK => ?_) AllReadyH.nil
              rw [if_pos (by rfl)]
              refine wp_app (v := v2) _ _ 30 rfl bN 27 i0 _ 16 128 Tryz.underlying30 hi hz0 hz1 hz2 rfl (by decide) rfl R0 gg o (m - k) (cap - k) hO (m * 16) rfl A2 (by omega) (by unfold maxLen; omega) (by omega) hxx4 ?_
              intro v3 x5 R1 hbl hgr
              have A1 := A1.low hbl hgsN
              have A2 := A2.low hbl hggN
              have A3 := A3.below hbl hwN
              have HW : Hid (Below w.heap.size w x5) := HW.out.trans (hbl.mono (by omega))
              clear hbl hgr R0
              have R0 := R1
              clear R1
              refine hK.out _ _ ⟨A1, A2⟩ (fun hHeld => ?_)
              clear hK K
              try simp only [Act.put, List.setIfInBounds_toArray, List.set_cons_zero, List.set_cons_succ]
              refine wpAnyH_take (i := 15) (oi := { dst := some 5, op := _, type := _, pos := _, after := _, guard := _ }) (v := v3) rfl (by kernel_rfl) (by kernel_rfl) (by kernel_rfl) (fun _ _ _ h => h) (Or.inl ⟨by rfl, by intro w hSw; clear hSw; go_simp; (try with_reducible rfl)⟩) (by assumption) ?_
              try simp only [Act.put, List.setIfInBounds_toArray, List.set_cons_zero, List.set_cons_succ]
              refine wpAnyH_done (by kernel_rfl) ?_ _
              clear hHeld
              rw [show 0 + k + 1 + (m - k) = m + 1 by omega, HF.out] at R0
              obtain ⟨g', cap', hv'⟩ := ownsRow_succ R0
              have HV := Lib.hid hv'
              have HR3 := Lib.hid R0
              have HIL : Hid (insS X wv (i + 1) = L.take k ++ cl 16 F :: L.drop k) := HINS.out k HPL.out
              have HLL : Hid ((insS X wv (i + 1)).length = m + 1) := by show _ = _; rw [HIL.out, List.length_append, List.length_cons, List.length_take, List.length_drop, hM]; omega
              have HO : Hid (OwnsL 27 16 x5 (w.heap.size + 1) v3 (insS X wv (i + 1))) := by
                show OwnsL _ _ _ _ _ _
                unfold OwnsL
                rw [HLL.out, HIL.out]
                exact ownsRow_wide HR3.out (by omega)
              clear hv' R0
              go_wp2_with fail
              go_roundg q1
              case rel => exact ⟨i + 1, _, by omega, by go_num, rfl, ⟨g', cap', by rw [HLL.out]; exact HV.out⟩, HO, A1, A3, HW⟩
              case measure => omega
end Go.Proofs.YtmcmpedmgibmkabGreat
namespace Go.Proofs.YtmcmpedmgibmkabGreat
open Go.RowKit Plain
attribute [local go_sem] store_new
set_option linter.unusedVariables false
set_option linter.unusedSimpArgs false

set_option maxHeartbeats 2000000 in
set_option maxRecDepth 20000 in
theorem specBB_any (f : Nat → Int) (d : Int) (w : World) :
    Calls Tryz.prog 7 #[.agg (mk 16 f), .int .i64 d] w fun e w' => ∃ g cap, e = .returned (.tuple #[.slice (some ⟨g, 0, none⟩) (bbR f d).length cap, .bool (bbO f d)]) ∧
      OwnsL 27 16 w' w.heap.size (.slice (some ⟨g, 0, none⟩) (bbR f d).length cap) (bbR f d) ∧ Below w.heap.size w w' := by
  have K1 := Blk.new w 16 f 27
  have HB := Lib.hid ((Below.refl w.heap.size w).alloc (Nat.le_refl _) (.cells (mk 16 f) 27))
  by_cases hV : Vd f
  · by_cases hd : 0 ≤ d ∧ d ≤ 3
    · obtain ⟨k, rfl⟩ := Int.eq_ofNat_of_zero_le hd.1
      have HV := Lib.hid hV
      have HK : Hid (k < 4) := by show _ < _; omega
      have d0 : (0 : Int) ≤ (k : Int) := by omega
      have d3 : (k : Int) ≤ 3 := by omega
      have hcb : cbR f (k : Int) = cntB f k := cbR_nat hV HK.out
      by_cases h0 : cntB f k ≤ 300
      · have hok : BbOk f (k : Int) := ⟨⟨hV, hd⟩, by rw [hcb]; exact h0⟩
        rw [(bb_yes hok).1, (bb_yes hok).2, Int.toNat_natCast]
        have HCP : Hid ((spS f k 4).length ≤ 50625) := by show _ ≤ _; rw [spS_len]; exact cntP_bd f k (Nat.le_refl 4)
        have hn3 : ¬ (300 < cntB f k) := by omega
        clear hcb h0 hV hd hok
        go_enter Tryz.func7, Tryz.ntmps7
        go_wp2_with ((with_reducible show wpList _ _ _ (Oper.mk _ (Op.load 27 _) _ _ _ _ :: _) _ _); refine loadB (K1) rfl rfl rfl ?_)
        refine (l2Board_yes _ _ HV.out).mono ?_
        rintro e w1 ⟨rfl, hb⟩
        have K1 := K1.below hb K1.lt
        have HB : Hid (Below w.heap.size w w1) := HB.out.trans (hb.mono HB.out.size)
        clear hb
        go_wp2_with fail
        refine (l2Side_yes _ _ d0 d3).mono ?_
        rintro e w' ⟨rfl, rfl⟩
        go_wp2_with ((with_reducible show wpList _ _ _ (Oper.mk _ (Op.load 27 _) _ _ _ (some _) :: _) _ _); refine loadgB (K1) rfl rfl rfl ?_)
        refine (l6Count_any f k _ HV.out HK.out).mono ?_
        rintro e w2 ⟨rfl, hb⟩
        have K1 := K1.below hb K1.lt
        have HB : Hid (Below w.heap.size w w2) := HB.out.trans (hb.mono HB.out.size)
        clear hb
        generalize cntB f k = cc at *
        go_wp2_with fail
        refine wp_region_held_drew (S := fun W => Blk W w.heap.size 16 f 27) (by kernel_rfl) (K1.drew) (fun hHeld => ?_)
        have K1 : Blk w2.drew w.heap.size 16 f 27 := K1.drew
        have HB : Hid (Below w.heap.size w w2.drew) := HB.out.drew
        generalize w2.drew = x0 at *
        refine wpAnyH_take (i := 0) (oi := { dst := some 21, op := _, type := _, pos := _, after := _, guard := _ }) (v := .agg (mk 16 f)) rfl (by kernel_rfl) (by kernel_rfl) (by kernel_rfl) (fun _ _ _ h => h) (Or.inl ⟨by rfl, fun _ q => execB q rfl rfl⟩) (by assumption) ?_
        try simp only [Act.put, List.setIfInBounds_toArray, List.set_cons_zero, List.set_cons_succ]
        refine wpAnyH_take (i := 1) (oi := { dst := some 22, op := _, type := _, pos := _, after := _, guard := _ }) (v := .int .i64 (k : Int)) rfl (by kernel_rfl) (by kernel_rfl) (by kernel_rfl) (fun _ _ _ h => h) (Or.inl ⟨by rfl, by intro w hSw; clear hSw; go_simp; (try with_reducible rfl)⟩) (by assumption) ?_
        try simp only [Act.put, List.setIfInBounds_toArray, List.set_cons_zero, List.set_cons_succ]
        refine wpAnyH_take (i := 3) (oi := { dst := some 24, op := _, type := _, pos := _, after := _, guard := _ }) (v := .agg (mk 16 f)) rfl (by kernel_rfl) (by kernel_rfl) (by kernel_rfl) (fun _ _ _ h => h) (Or.inl ⟨by rfl, fun _ q => execB q rfl rfl⟩) (by assumption) ?_
        try simp only [Act.put, List.setIfInBounds_toArray, List.set_cons_zero, List.set_cons_succ]
        refine wpAnyH_ready (rs := [2]) (by kernel_rfl) (by simp) ?_
        refine AllReadyH.cons rfl (fun K hK => ?_) AllReadyH.nil
        go_simp
        refine (l6All_any f k _ HV.out HK.out).mono ?_
        rintro e x1 ⟨gs, cs, rfl, ho, hb⟩
        have K1 := K1.below hb K1.lt
        have HB : Hid (Below w.heap.size w x1) := HB.out.trans (hb.mono HB.out.size)
        obtain ⟨_, _, e1, _, CS⟩ := KRow.of_list (spS_all f k 4) ho
        cases e1
        clear hb ho hHeld
        go_wp2_with fail
        refine hK.out _ _ K1 (fun hHeld => ?_)
        clear hK K
        try simp only [Act.put, List.setIfInBounds_toArray, List.set_cons_zero, List.set_cons_succ]
        refine wpAnyH_ready (rs := [4]) (by kernel_rfl) (by simp) ?_
        refine AllReadyH.cons rfl (fun K hK => ?_) AllReadyH.nil
        go_simp
        refine (l6Sorted_any gs cs (spS f k 4) f _ (spS_all f k 4) (spS_nodup HV.out k) HCP.out CS).mono ?_
        rintro e x2 ⟨g, cap, rfl, ho, hb⟩
        have HO := Lib.hid (OwnsL.wide ho HB.out.size)
        have K1 := K1.below hb K1.lt
        have HB : Hid (Below w.heap.size w x2) := HB.out.trans (hb.mono HB.out.size)
        clear hb ho hHeld CS
        go_wp2_with fail
        refine hK.out _ _ K1 (fun hHeld => ?_)
        clear hK K
        try simp only [Act.put, List.setIfInBounds_toArray, List.set_cons_zero, List.set_cons_succ]
        refine wpAnyH_take (i := 5) (oi := { dst := some 4, op := _, type := _, pos := _, after := _, guard := _ }) (v := .slice (some ⟨g, 0, none⟩) (insS (spS f k 4) (cl 16 f) (spS f k 4).length).length cap) rfl (by kernel_rfl) (by kernel_rfl) (by kernel_rfl) (fun _ _ _ h => h) (Or.inl ⟨by rfl, by intro w hSw; clear hSw; go_simp; (try with_reducible rfl)⟩) (by assumption) ?_
        try simp only [Act.put, List.setIfInBounds_toArray, List.set_cons_zero, List.set_cons_succ]
        refine wpAnyH_take (i := 6) (oi := { dst := some 5, op := _, type := _, pos := _, after := _, guard := _ }) (v := .bool true) rfl (by kernel_rfl) (by kernel_rfl) (by kernel_rfl) (fun _ _ _ h => h) (Or.inl ⟨by rfl, by intro w hSw; clear hSw; go_simp; (try with_reducible rfl)⟩) (by assumption) ?_
        try simp only [Act.put, List.setIfInBounds_toArray, List.set_cons_zero, List.set_cons_succ]
        refine wpAnyH_done (by kernel_rfl) ?_ _
        clear hHeld
        go_wp2_with fail
        go_ret2
        exact ⟨g, cap, rfl, HO.out, HB.out⟩
      · have hno : ¬ BbOk f (k : Int) := fun h => h0 (by rw [← hcb]; exact h.2)
        rw [(bb_no hno).1, (bb_no hno).2]
        have hn3 : 300 < cntB f k := by omega
        clear hcb h0 hV hd hno
        go_enter Tryz.func7, Tryz.ntmps7
        go_wp2_with ((with_reducible show wpList _ _ _ (Oper.mk _ (Op.load 27 _) _ _ _ _ :: _) _ _); refine loadB (K1) rfl rfl rfl ?_)
        refine (l2Board_yes _ _ HV.out).mono ?_
        rintro e w1 ⟨rfl, hb⟩
        have K1 := K1.below hb K1.lt
        have HB : Hid (Below w.heap.size w w1) := HB.out.trans (hb.mono HB.out.size)
        clear hb
        go_wp2_with fail
        refine (l2Side_yes _ _ d0 d3).mono ?_
        rintro e w' ⟨rfl, rfl⟩
        go_wp2_with ((with_reducible show wpList _ _ _ (Oper.mk _ (Op.load 27 _) _ _ _ (some _) :: _) _ _); refine loadgB (K1) rfl rfl rfl ?_)
        refine (l6Count_any f k _ HV.out HK.out).mono ?_
        rintro e w2 ⟨rfl, hb⟩
        have HB : Hid (Below w.heap.size w w2) := HB.out.trans (hb.mono HB.out.size)
        clear hb
        generalize cntB f k = cc at *
        have HO : Hid (OwnsL 27 16 (w2.alloc (.cells #[] 27)) w.heap.size (.slice (some ⟨w2.heap.size, 0, none⟩) 0 0) []) := OwnsL.made w2 HB.out.size
        have HB2 : Hid (Below w.heap.size w (w2.alloc (.cells #[] 27))) := HB.out.alloc HB.out.size _
        go_wp2_with fail
        go_ret2
        exact ⟨_, _, rfl, HO.out, HB2.out⟩
    · have hno : ¬ BbOk f d := fun h => hd h.1.2
      rw [(bb_no hno).1, (bb_no hno).2]
      have HV := Lib.hid hV
      have HD := Lib.hid (show d < 0 ∨ 3 < d by omega)
      clear hV hd hno
      go_enter Tryz.func7, Tryz.ntmps7
      go_wp2_with ((with_reducible show wpList _ _ _ (Oper.mk _ (Op.load 27 _) _ _ _ _ :: _) _ _); refine loadB (K1) rfl rfl rfl ?_)
      refine (l2Board_yes _ _ HV.out).mono ?_
      rintro e w1 ⟨rfl, hb⟩
      have K1 := K1.below hb K1.lt
      have HB : Hid (Below w.heap.size w w1) := HB.out.trans (hb.mono HB.out.size)
      clear hb
      go_wp2_with fail
      refine (l2Side_no _ _ HD.out).mono ?_
      rintro e w' ⟨rfl, rfl⟩
      have HO : Hid (OwnsL 27 16 (w1.alloc (.cells #[] 27)) w.heap.size (.slice (some ⟨w1.heap.size, 0, none⟩) 0 0) []) := OwnsL.made w1 HB.out.size
      have HB2 : Hid (Below w.heap.size w (w1.alloc (.cells #[] 27))) := HB.out.alloc HB.out.size _
      go_wp2_with fail
      go_ret2
      exact ⟨_, _, rfl, HO.out, HB2.out⟩
  · have hno : ¬ BbOk f d := fun h => hV h.1.1
    rw [(bb_no hno).1, (bb_no hno).2]
    clear hno
    go_enter Tryz.func7, Tryz.ntmps7
    go_wp2_with ((with_reducible show wpList _ _ _ (Oper.mk _ (Op.load 27 _) _ _ _ _ :: _) _ _); refine loadB (K1) rfl rfl rfl ?_)
    refine (l2Board_no _ _ hV).mono ?_
    rintro e w1 ⟨rfl, hb⟩
    have HB : Hid (Below w.heap.size w w1) := HB.out.trans (hb.mono HB.out.size)
    clear hb
    have HO : Hid (OwnsL 27 16 (w1.alloc (.cells #[] 27)) w.heap.size (.slice (some ⟨w1.heap.size, 0, none⟩) 0 0) []) := OwnsL.made w1 HB.out.size
    have HB2 : Hid (Below w.heap.size w (w1.alloc (.cells #[] 27))) := HB.out.alloc HB.out.size _
    go_wp2_with fail
    go_ret2
    exact ⟨_, _, rfl, HO.out, HB2.out⟩
end Go.Proofs.YtmcmpedmgibmkabGreat
