/-
  The contract of the reference's l6All: all boards of a row before each line. The conditions: all numbers are those of cells, the direction is one.
-/
import Derived.Test.YtphkidkkcknnmaaSpecWith
import Derived.Test.YtphkidkkcknnmaaImplBoardsOf
namespace Go.Proofs.Ytphkidkkcknnmaa
open Go.RowKit Plain
attribute [local go_sem] store_new
set_option linter.unusedVariables false
set_option linter.unusedSimpArgs false

theorem execLS {o : Oper} {ev : Operand → Value} {w : World} {b j : Nat} {v : Value} {x : Operand} (hc : w.cell? ⟨b, j, none⟩ = some v) (ho : o.op = .load 68 x) (hx : ev x = .pointer (some ⟨b, j, none⟩)) :
    (execOp ev o).run Try.prog w = .ok (.value v) w := by
  unfold execOp
  simp only [ho, hx]
  go_simp
theorem wp_buildBd {w : World} {o : Oper} {a : Act} {K : Act → World → Prop} {Q : Exit → Act → World → Prop} (d : Tmp) (x : Operand) (ho : o.op = .buildSlice 48 1 #[(0, x)]) (hd : o.dst = some d) {f : Nat → Int} (hx : a.eval x = .agg (mk 16 f))
    (h : K (a.put (some d) (.slice (some ⟨w.heap.size, 0, none⟩) 1 1)) (w.alloc (.cells (mk 16 f) 28))) : o.wp Try.prog a w K Q := by
  rw [← hd] at h
  exact wp_buildB x ho hx h
/-- The lists of rows before the lines, none of which lies in a block. -/
def LinesN (w : World) (b : Nat) (f : Nat → Int) (d : Nat) (v : Nat → Value) : Prop := ∀ i, i < 4 → ∃ g c, v i = .slice (some ⟨g, 0, none⟩) (lnR f d i).length c ∧ g ≠ b ∧ CAt w g ((lnR f d i).length * 4) (flatF (lnR f d i))
section
variable {w w' : World} {b base : Nat} {f : Nat → Int} {d : Nat} {v : Nat → Value}
theorem LinesN.below (h : LinesN w b f d v) (hb : Below w.heap.size w w') : LinesN w' b f d v := fun i hi => by
  obtain ⟨g, c, h1, h2, h3⟩ := h i hi; exact ⟨g, c, h1, h2, h3.below hb⟩
theorem LinesN.alloc (h : LinesN w b f d v) (o : Obj) : LinesN (w.alloc o) b f d v := h.below ((Below.refl _ w).alloc (Nat.le_refl _) o)
theorem LinesN.row (h : LinesN w b f d v) (cs : Array Value) : LinesN (w.setRow b cs) b f d v := fun i hi => by
  obtain ⟨g, c, h1, h2, h3⟩ := h i hi; exact ⟨g, c, h1, h2, h3.rowOther b cs h2⟩
theorem LinesN.low {B : Nat} (h : LinesN w b f d v) (hb : Below B w w') (hB : ∀ i, i < 4 → ∀ g n c, v i = .slice (some ⟨g, 0, none⟩) n c → g < B) : LinesN w' b f d v := fun i hi => by
  obtain ⟨g, c, h1, h2, h3⟩ := h i hi; exact ⟨g, c, h1, h2, h3.low hb (hB i hi g _ c h1)⟩
theorem linesN_low (h : LinesB w base f d 4 v) (hb : b < base) : LinesN w b f d v := fun i hi => by
  obtain ⟨g, c, h1, h2, h3⟩ := h i hi; exact ⟨g, c, h1, by omega, h3⟩
theorem linesN_new (h : LinesB w base f d 4 v) (o : Obj) : LinesN (w.alloc o) w.heap.size f d v := fun i hi => by
  obtain ⟨g, c, h1, h2, h3⟩ := h i hi; exact ⟨g, c, h1, by have := h3.1; omega, h3.alloc o⟩
end
theorem OwnsL.rowO {t u : TypeId} {m b c : Nat} {w : World} {v : Value} {L : List (List Int)} {ds : Array Value} (h : OwnsL t m w b v L) (k : Oth w c ds u) (cs : Array Value) (hne : v.ownBlock ≠ some c) : OwnsL t m (w.setRow c cs) b v L :=
  World.ownsRow.kept h (⟨rfl, rfl, rfl, by simp [World.setRow], fun j hj hne => setRow_other w c j cs (fun e => hne (by rw [e]))⟩ : w.grownBy (w.setRow c cs) (some c)) (Or.inr hne)
theorem snoc_walk0 {m : Nat} (L : List (List Int)) (f : Nat → Int) : L.flatten.map (Value.int .i64) ++ (mk m f).toList = (L ++ [cl m f]).flatten.map (Value.int .i64) := by
  rw [List.flatten_append, List.map_append, List.flatten_singleton, mk_cl]

set_option maxHeartbeats 4000000 in
set_option maxRecDepth 20000 in
theorem l6All_any (f : Nat → Int) (d : Nat) (w : World) (hV : Vd f) (hd : d < 4) :
    Calls Try.prog 76 #[.agg (mk 16 f), .int .i64 (d : Int)] w fun e w' => ∃ g cap, e = .returned (.slice (some ⟨g, 0, none⟩) (spS f d 4).length cap) ∧
      OwnsL 28 16 w' w.heap.size (.slice (some ⟨g, 0, none⟩) (spS f d 4).length cap) (spS f d 4) ∧ Below w.heap.size w w' := by
  obtain ⟨i0, hi, hz0, hz1, hz2⟩ := info_parts infoB
  have zl := zeroL
  have K1 := Blk.new w 16 f 28
  have HB := Lib.hid ((Below.refl w.heap.size w).alloc (Nat.le_refl _) (.cells (mk 16 f) 28))
  have HSL := Lib.hid (fun i => spS_len f d i)
  have HCB := Lib.hid (fun i (hi : i ≤ 4) => cntP_bd f d hi)
  have HV := Lib.hid hV
  have HD := Lib.hid hd
  clear hV hd
  go_enter Try.func76, Try.ntmps76
  go_upto_region 1 with (fail)
  generalize w.alloc (.cells (mk 16 f) 28) = w1 at *
  go_cut [5, 6] from 11 to 15 (fun s5 s6 wc => ∃ (b5 g6 : Nat) (v : Nat → Value), s5 = .pointer (some ⟨b5, 0, none⟩) ∧ s6 = .slice (some ⟨g6, 0, none⟩) 1 1 ∧ Blk wc w.heap.size 16 f 28 ∧ Oth wc b5 (vk 4 v) 69 ∧ LinesN wc b5 f d v ∧ OwnsL 28 16 wc (w.heap.size + 1) (.slice (some ⟨g6, 0, none⟩) 1 1) [cl 16 f] ∧ Below w.heap.size w wc ∧ w.heap.size < b5)
  case first =>
    refine wp_region_held_drew (S := fun W => Blk W w.heap.size 16 f 28) (by kernel_rfl) (K1.drew) (fun hHeld => ?_)
    have K1 : Blk w1.drew w.heap.size 16 f 28 := K1.drew
    have HB : Hid (Below w.heap.size w w1.drew) := HB.out.drew
    generalize w1.drew = x0 at *
    refine wpAnyH_take (i := 0) (oi := { dst := some 11, op := _, type := _, pos := _, after := _, guard := _ }) (v := .agg (mk 16 f)) rfl (by kernel_rfl) (by kernel_rfl) (by kernel_rfl) (fun _ _ _ h => h) (Or.inl ⟨by rfl, fun _ q => execB q rfl rfl⟩) (by assumption) ?_
    try simp only [Act.put, List.setIfInBounds_toArray, List.set_cons_zero, List.set_cons_succ]
    refine wpAnyH_take (i := 1) (oi := { dst := some 12, op := _, type := _, pos := _, after := _, guard := _ }) (v := .int .i64 (d : Int)) rfl (by kernel_rfl) (by kernel_rfl) (by kernel_rfl) (fun _ _ _ h => h) (Or.inl ⟨by rfl, by intro w hSw; clear hSw; go_simp; (try with_reducible rfl)⟩) (by assumption) ?_
    try simp only [Act.put, List.setIfInBounds_toArray, List.set_cons_zero, List.set_cons_succ]
    refine wpAnyH_take (i := 3) (oi := { dst := some 14, op := _, type := _, pos := _, after := _, guard := _ }) (v := .agg (mk 16 f)) rfl (by kernel_rfl) (by kernel_rfl) (by kernel_rfl) (fun _ _ _ h => h) (Or.inl ⟨by rfl, fun _ q => execB q rfl rfl⟩) (by assumption) ?_
    try simp only [Act.put, List.setIfInBounds_toArray, List.set_cons_zero, List.set_cons_succ]
    refine wpAnyH_ready (rs := [2, 4, 5]) (by kernel_rfl) (by simp) ?_
    refine AllReadyH.cons rfl (fun K hK => ?_) ?_
    · go_simp
      refine (l6Lists_any f d _ HV.out HD.out).mono ?_
      rintro e x1 ⟨v, rfl, hl, hb⟩
      have H1 := Lib.hid (listsOne hl)
      have hkx := K1.lt
      have K1 := K1.below hb K1.lt
      have HB : Hid (Below w.heap.size w x1) := HB.out.trans (hb.mono HB.out.size)
      have HT : Hid (LinesB x1 (w.heap.size + 1) f d 4 v) := hl.wide (by omega)
      clear hl hb hHeld hkx
      go_wp2_with fail
      refine hK.out _ _ K1 (fun hHeld => ?_)
      clear hK K
      try simp only [Act.put, List.setIfInBounds_toArray, List.set_cons_zero, List.set_cons_succ]
      refine wpAnyH_ready (rs := [4, 5]) (by kernel_rfl) (by simp) ?_
      refine AllReadyH.cons rfl (fun K hK => ?_) ?_
      · rw [if_pos (by rfl)]
        refine wp_buildBd 15 _ rfl rfl (f := f) rfl ?_
        have hkx := K1.lt
        have HO : Hid (OwnsL 28 16 (x1.alloc (.cells (mk 16 f) 28)) (w.heap.size + 1) (.slice (some ⟨x1.heap.size, 0, none⟩) 1 1) [cl 16 f]) := OwnsL.one x1 f (by omega) (by omega)
        have K1 := K1.alloc (.cells (mk 16 f) 28)
        have HB : Hid (Below w.heap.size w (x1.alloc (.cells (mk 16 f) 28))) := HB.out.alloc HB.out.size _
        have HT : Hid (LinesB (x1.alloc (.cells (mk 16 f) 28)) (w.heap.size + 1) f d 4 v) := HT.out.alloc _
        clear hHeld hkx
        generalize x1.alloc (.cells (mk 16 f) 28) = x2 at *
        generalize x1.heap.size = g6 at *
        refine hK.out _ _ K1 (fun hHeld => ?_)
        clear hK K
        try simp only [Act.put, List.setIfInBounds_toArray, List.set_cons_zero, List.set_cons_succ]
        refine wpAnyH_ready (rs := [5]) (by kernel_rfl) (by simp) ?_
        refine AllReadyH.cons rfl (fun K hK => ?_) AllReadyH.nil
        rw [if_pos (by rfl)]
        refine wp_allocL 5 rfl rfl ?_
        have hkx := K1.lt
        have H5W := Lib.hid hkx
        clear hkx
        have K5 := Oth.new x2 (vk 4 fun _ => .slice none 0 0) 69
        have H5X : Hid (x2.heap.size < (x2.alloc (.cells (vk 4 fun _ => .slice none 0 0) 69)).heap.size) := by show _ < _; simp
        have HNE : Hid (g6 ≠ x2.heap.size) := by have : g6 < x2.heap.size := (HO.out.lt g6 rfl).2; show _ ≠ _; omega
        have HO : Hid (OwnsL 28 16 (x2.alloc (.cells (vk 4 fun _ => .slice none 0 0) 69)) (w.heap.size + 1) (.slice (some ⟨g6, 0, none⟩) 1 1) [cl 16 f]) := HO.out.alloc _
        have HL : Hid (LinesN (x2.alloc (.cells (vk 4 fun _ => .slice none 0 0) 69)) x2.heap.size f d v) := linesN_new HT.out _
        have K1 := K1.alloc (.cells (vk 4 fun _ => .slice none 0 0) 69)
        have HB : Hid (Below w.heap.size w (x2.alloc (.cells (vk 4 fun _ => .slice none 0 0) 69))) := HB.out.alloc HB.out.size _
        clear hHeld
        generalize x2.alloc (.cells (vk 4 fun _ => .slice none 0 0) 69) = x3 at *
        generalize x2.heap.size = b5 at *
        refine hK.out _ _ K1 (fun hHeld => ?_)
        clear hK K
        try simp only [Act.put, List.setIfInBounds_toArray, List.set_cons_zero, List.set_cons_succ]
        refine wpAnyH_ready (rs := [6]) (by kernel_rfl) (by simp) ?_
        refine AllReadyH.cons rfl (fun K hK => ?_) AllReadyH.nil
        rw [if_pos (by rfl)]
        refine wp_store_vk _ _ _ rfl rfl rfl K5 sizeLL H1.out rfl ?_
        have hw5 : w.heap.size < b5 := H5W.out
        have K1 := K1.rowOther b5 (vk 4 v) (by omega)
        have HB : Hid (Below w.heap.size w (x3.setRow b5 (vk 4 v))) := below_setRow HB.out (by omega) _
        have HO : Hid (OwnsL 28 16 (x3.setRow b5 (vk 4 v)) (w.heap.size + 1) (.slice (some ⟨g6, 0, none⟩) 1 1) [cl 16 f]) := OwnsL.rowO HO.out K5 _ (by simp only [Value.ownBlock]; intro e; cases e; exact HNE.out rfl)
        have HL : Hid (LinesN (x3.setRow b5 (vk 4 v)) b5 f d v) := HL.out.row _
        have K5 := K5.row (vk 4 v)
        clear hHeld hw5
        generalize x3.setRow b5 (vk 4 v) = x4 at *
        refine hK.out _ _ K1 (fun hHeld => ?_)
        clear hK K
        try simp only [Act.put, List.setIfInBounds_toArray, List.set_cons_zero, List.set_cons_succ]
        refine wpAnyH_take (i := 7) (oi := { dst := some 6, op := _, type := _, pos := _, after := _, guard := _ }) (v := .slice (some ⟨g6, 0, none⟩) 1 1) rfl (by kernel_rfl) (by kernel_rfl) (by kernel_rfl) (fun _ _ _ h => h) (Or.inl ⟨by rfl, by intro w hSw; clear hSw; go_simp; (try with_reducible rfl)⟩) (by assumption) ?_
        try simp only [Act.put, List.setIfInBounds_toArray, List.set_cons_zero, List.set_cons_succ]
        refine wpAnyH_done (by kernel_rfl) ?_ _
        clear hHeld
        go_wp2_with fail
        go_meet
        case rel => exact ⟨b5, g6, v, rfl, rfl, K1, K5, HL.out, HO.out, HB.out, H5W.out⟩
      refine AllReadyH.cons rfl (fun K hK => ?_) AllReadyH.nil
      rw [if_pos (by rfl)]
      refine wp_allocL 5 rfl rfl ?_
      have hkx := K1.lt
      have H5W := Lib.hid hkx
      clear hkx
      have K5 := Oth.new x1 (vk 4 fun _ => .slice none 0 0) 69
      have H5X : Hid (x1.heap.size < (x1.alloc (.cells (vk 4 fun _ => .slice none 0 0) 69)).heap.size) := by show _ < _; simp
      have HL : Hid (LinesN (x1.alloc (.cells (vk 4 fun _ => .slice none 0 0) 69)) x1.heap.size f d v) := linesN_new HT.out _
      have K1 := K1.alloc (.cells (vk 4 fun _ => .slice none 0 0) 69)
      have HB : Hid (Below w.heap.size w (x1.alloc (.cells (vk 4 fun _ => .slice none 0 0) 69))) := HB.out.alloc HB.out.size _
      clear hHeld
      generalize x1.alloc (.cells (vk 4 fun _ => .slice none 0 0) 69) = x2 at *
      generalize x1.heap.size = b5 at *
      refine hK.out _ _ K1 (fun hHeld => ?_)
      clear hK K
      try simp only [Act.put, List.setIfInBounds_toArray, List.set_cons_zero, List.set_cons_succ]
      refine wpAnyH_ready (rs := [4, 6]) (by kernel_rfl) (by simp) ?_
      refine AllReadyH.cons rfl (fun K hK => ?_) ?_
      · rw [if_pos (by rfl)]
        refine wp_buildBd 15 _ rfl rfl (f := f) rfl ?_
        have hkx := K1.lt
        have HO : Hid (OwnsL 28 16 (x2.alloc (.cells (mk 16 f) 28)) (w.heap.size + 1) (.slice (some ⟨x2.heap.size, 0, none⟩) 1 1) [cl 16 f]) := OwnsL.one x2 f (by omega) (by omega)
        have HNE : Hid (x2.heap.size ≠ b5) := by have := K5.lt; show _ ≠ _; omega
        have K1 := K1.alloc (.cells (mk 16 f) 28)
        have HB : Hid (Below w.heap.size w (x2.alloc (.cells (mk 16 f) 28))) := HB.out.alloc HB.out.size _
        have K5 := K5.alloc (.cells (mk 16 f) 28)
        have H5Y : Hid (b5 < (x2.alloc (.cells (mk 16 f) 28)).heap.size) := K5.lt
        clear H5X
        have H5X := H5Y
        clear H5Y
        have HL : Hid (LinesN (x2.alloc (.cells (mk 16 f) 28)) b5 f d v) := HL.out.alloc _
        clear hHeld hkx
        generalize x2.alloc (.cells (mk 16 f) 28) = x3 at *
        generalize x2.heap.size = g6 at *
        refine hK.out _ _ K1 (fun hHeld => ?_)
        clear hK K
        try simp only [Act.put, List.setIfInBounds_toArray, List.set_cons_zero, List.set_cons_succ]
        refine wpAnyH_ready (rs := [6]) (by kernel_rfl) (by simp) ?_
        refine AllReadyH.cons rfl (fun K hK => ?_) AllReadyH.nil
        rw [if_pos (by rfl)]
        refine wp_store_vk _ _ _ rfl rfl rfl K5 sizeLL H1.out rfl ?_
        have hw5 : w.heap.size < b5 := H5W.out
        have K1 := K1.rowOther b5 (vk 4 v) (by omega)
        have HB : Hid (Below w.heap.size w (x3.setRow b5 (vk 4 v))) := below_setRow HB.out (by omega) _
        have HO : Hid (OwnsL 28 16 (x3.setRow b5 (vk 4 v)) (w.heap.size + 1) (.slice (some ⟨g6, 0, none⟩) 1 1) [cl 16 f]) := OwnsL.rowO HO.out K5 _ (by simp only [Value.ownBlock]; intro e; cases e; exact HNE.out rfl)
        have HL : Hid (LinesN (x3.setRow b5 (vk 4 v)) b5 f d v) := HL.out.row _
        have K5 := K5.row (vk 4 v)
        clear hHeld hw5
        generalize x3.setRow b5 (vk 4 v) = x4 at *
        refine hK.out _ _ K1 (fun hHeld => ?_)
        clear hK K
        try simp only [Act.put, List.setIfInBounds_toArray, List.set_cons_zero, List.set_cons_succ]
        refine wpAnyH_take (i := 7) (oi := { dst := some 6, op := _, type := _, pos := _, after := _, guard := _ }) (v := .slice (some ⟨g6, 0, none⟩) 1 1) rfl (by kernel_rfl) (by kernel_rfl) (by kernel_rfl) (fun _ _ _ h => h) (Or.inl ⟨by rfl, by intro w hSw; clear hSw; go_simp; (try with_reducible rfl)⟩) (by assumption) ?_
        try simp only [Act.put, List.setIfInBounds_toArray, List.set_cons_zero, List.set_cons_succ]
        refine wpAnyH_done (by kernel_rfl) ?_ _
        clear hHeld
        go_wp2_with fail
        go_meet
        case rel => exact ⟨b5, g6, v, rfl, rfl, K1, K5, HL.out, HO.out, HB.out, H5W.out⟩
      refine AllReadyH.cons rfl (fun K hK => ?_) AllReadyH.nil
      rw [if_pos (by rfl)]
      refine wp_store_vk _ _ _ rfl rfl rfl K5 sizeLL H1.out rfl ?_
      have hw5 : w.heap.size < b5 := H5W.out
      have K1 := K1.rowOther b5 (vk 4 v) (by omega)
      have HB : Hid (Below w.heap.size w (x2.setRow b5 (vk 4 v))) := below_setRow HB.out (by omega) _
      have HL : Hid (LinesN (x2.setRow b5 (vk 4 v)) b5 f d v) := HL.out.row _
      have K5 := K5.row (vk 4 v)
      clear hHeld hw5
      generalize x2.setRow b5 (vk 4 v) = x3 at *
      refine hK.out _ _ K1 (fun hHeld => ?_)
      clear hK K
      try simp only [Act.put, List.setIfInBounds_toArray, List.set_cons_zero, List.set_cons_succ]
      refine wpAnyH_ready (rs := [4]) (by kernel_rfl) (by simp) ?_
      refine AllReadyH.cons rfl (fun K hK => ?_) AllReadyH.nil
      rw [if_pos (by rfl)]
      refine wp_buildBd 15 _ rfl rfl (f := f) rfl ?_
      have hkx := K1.lt
      have HO : Hid (OwnsL 28 16 (x3.alloc (.cells (mk 16 f) 28)) (w.heap.size + 1) (.slice (some ⟨x3.heap.size, 0, none⟩) 1 1) [cl 16 f]) := OwnsL.one x3 f (by omega) (by omega)
      have HNE : Hid (x3.heap.size ≠ b5) := by have := K5.lt; show _ ≠ _; omega
      have K1 := K1.alloc (.cells (mk 16 f) 28)
      have HB : Hid (Below w.heap.size w (x3.alloc (.cells (mk 16 f) 28))) := HB.out.alloc HB.out.size _
      have K5 := K5.alloc (.cells (mk 16 f) 28)
      have H5Y : Hid (b5 < (x3.alloc (.cells (mk 16 f) 28)).heap.size) := K5.lt
      clear H5X
      have H5X := H5Y
      clear H5Y
      have HL : Hid (LinesN (x3.alloc (.cells (mk 16 f) 28)) b5 f d v) := HL.out.alloc _
      clear hHeld hkx
      generalize x3.alloc (.cells (mk 16 f) 28) = x4 at *
      generalize x3.heap.size = g6 at *
      refine hK.out _ _ K1 (fun hHeld => ?_)
      clear hK K
      try simp only [Act.put, List.setIfInBounds_toArray, List.set_cons_zero, List.set_cons_succ]
      refine wpAnyH_take (i := 7) (oi := { dst := some 6, op := _, type := _, pos := _, after := _, guard := _ }) (v := .slice (some ⟨g6, 0, none⟩) 1 1) rfl (by kernel_rfl) (by kernel_rfl) (by kernel_rfl) (fun _ _ _ h => h) (Or.inl ⟨by rfl, by intro w hSw; clear hSw; go_simp; (try with_reducible rfl)⟩) (by assumption) ?_
      try simp only [Act.put, List.setIfInBounds_toArray, List.set_cons_zero, List.set_cons_succ]
      refine wpAnyH_done (by kernel_rfl) ?_ _
      clear hHeld
      go_wp2_with fail
      go_meet
      case rel => exact ⟨b5, g6, v, rfl, rfl, K1, K5, HL.out, HO.out, HB.out, H5W.out⟩
    refine AllReadyH.cons rfl (fun K hK => ?_) ?_
    · rw [if_pos (by rfl)]
      refine wp_buildBd 15 _ rfl rfl (f := f) rfl ?_
      have hkx := K1.lt
      have HO : Hid (OwnsL 28 16 (x0.alloc (.cells (mk 16 f) 28)) (w.heap.size + 1) (.slice (some ⟨x0.heap.size, 0, none⟩) 1 1) [cl 16 f]) := OwnsL.one x0 f (by omega) (by omega)
      have K1 := K1.alloc (.cells (mk 16 f) 28)
      have HB : Hid (Below w.heap.size w (x0.alloc (.cells (mk 16 f) 28))) := HB.out.alloc HB.out.size _
      clear hHeld hkx
      generalize x0.alloc (.cells (mk 16 f) 28) = x1 at *
      generalize x0.heap.size = g6 at *
      refine hK.out _ _ K1 (fun hHeld => ?_)
      clear hK K
      try simp only [Act.put, List.setIfInBounds_toArray, List.set_cons_zero, List.set_cons_succ]
      refine wpAnyH_ready (rs := [2, 5]) (by kernel_rfl) (by simp) ?_
      refine AllReadyH.cons rfl (fun K hK => ?_) ?_
      · go_simp
        refine (l6Lists_any f d _ HV.out HD.out).mono ?_
        rintro e x2 ⟨v, rfl, hl, hb⟩
        have H1 := Lib.hid (listsOne hl)
        have hkx := K1.lt
        have K1 := K1.below hb K1.lt
        have HB : Hid (Below w.heap.size w x2) := HB.out.trans (hb.mono HB.out.size)
        have HO : Hid (OwnsL 28 16 x2 (w.heap.size + 1) (.slice (some ⟨g6, 0, none⟩) 1 1) [cl 16 f]) := HO.out.below hb
        have HT : Hid (LinesB x2 (w.heap.size + 1) f d 4 v) := hl.wide (by omega)
        clear hl hb hHeld hkx
        go_wp2_with fail
        refine hK.out _ _ K1 (fun hHeld => ?_)
        clear hK K
        try simp only [Act.put, List.setIfInBounds_toArray, List.set_cons_zero, List.set_cons_succ]
        refine wpAnyH_ready (rs := [5]) (by kernel_rfl) (by simp) ?_
        refine AllReadyH.cons rfl (fun K hK => ?_) AllReadyH.nil
        rw [if_pos (by rfl)]
        refine wp_allocL 5 rfl rfl ?_
        have hkx := K1.lt
        have H5W := Lib.hid hkx
        clear hkx
        have K5 := Oth.new x2 (vk 4 fun _ => .slice none 0 0) 69
        have H5X : Hid (x2.heap.size < (x2.alloc (.cells (vk 4 fun _ => .slice none 0 0) 69)).heap.size) := by show _ < _; simp
        have HNE : Hid (g6 ≠ x2.heap.size) := by have : g6 < x2.heap.size := (HO.out.lt g6 rfl).2; show _ ≠ _; omega
        have HO : Hid (OwnsL 28 16 (x2.alloc (.cells (vk 4 fun _ => .slice none 0 0) 69)) (w.heap.size + 1) (.slice (some ⟨g6, 0, none⟩) 1 1) [cl 16 f]) := HO.out.alloc _
        have HL : Hid (LinesN (x2.alloc (.cells (vk 4 fun _ => .slice none 0 0) 69)) x2.heap.size f d v) := linesN_new HT.out _
        have K1 := K1.alloc (.cells (vk 4 fun _ => .slice none 0 0) 69)
        have HB : Hid (Below w.heap.size w (x2.alloc (.cells (vk 4 fun _ => .slice none 0 0) 69))) := HB.out.alloc HB.out.size _
        clear hHeld
        generalize x2.alloc (.cells (vk 4 fun _ => .slice none 0 0) 69) = x3 at *
        generalize x2.heap.size = b5 at *
        refine hK.out _ _ K1 (fun hHeld => ?_)
        clear hK K
        try simp only [Act.put, List.setIfInBounds_toArray, List.set_cons_zero, List.set_cons_succ]
        refine wpAnyH_ready (rs := [6]) (by kernel_rfl) (by simp) ?_
        refine AllReadyH.cons rfl (fun K hK => ?_) AllReadyH.nil
        rw [if_pos (by rfl)]
        refine wp_store_vk _ _ _ rfl rfl rfl K5 sizeLL H1.out rfl ?_
        have hw5 : w.heap.size < b5 := H5W.out
        have K1 := K1.rowOther b5 (vk 4 v) (by omega)
        have HB : Hid (Below w.heap.size w (x3.setRow b5 (vk 4 v))) := below_setRow HB.out (by omega) _
        have HO : Hid (OwnsL 28 16 (x3.setRow b5 (vk 4 v)) (w.heap.size + 1) (.slice (some ⟨g6, 0, none⟩) 1 1) [cl 16 f]) := OwnsL.rowO HO.out K5 _ (by simp only [Value.ownBlock]; intro e; cases e; exact HNE.out rfl)
        have HL : Hid (LinesN (x3.setRow b5 (vk 4 v)) b5 f d v) := HL.out.row _
        have K5 := K5.row (vk 4 v)
        clear hHeld hw5
        generalize x3.setRow b5 (vk 4 v) = x4 at *
        refine hK.out _ _ K1 (fun hHeld => ?_)
        clear hK K
        try simp only [Act.put, List.setIfInBounds_toArray, List.set_cons_zero, List.set_cons_succ]
        refine wpAnyH_take (i := 7) (oi := { dst := some 6, op := _, type := _, pos := _, after := _, guard := _ }) (v := .slice (some ⟨g6, 0, none⟩) 1 1) rfl (by kernel_rfl) (by kernel_rfl) (by kernel_rfl) (fun _ _ _ h => h) (Or.inl ⟨by rfl, by intro w hSw; clear hSw; go_simp; (try with_reducible rfl)⟩) (by assumption) ?_
        try simp only [Act.put, List.setIfInBounds_toArray, List.set_cons_zero, List.set_cons_succ]
        refine wpAnyH_done (by kernel_rfl) ?_ _
        clear hHeld
        go_wp2_with fail
        go_meet
        case rel => exact ⟨b5, g6, v, rfl, rfl, K1, K5, HL.out, HO.out, HB.out, H5W.out⟩
      refine AllReadyH.cons rfl (fun K hK => ?_) AllReadyH.nil
      rw [if_pos (by rfl)]
      refine wp_allocL 5 rfl rfl ?_
      have hkx := K1.lt
      have H5W := Lib.hid hkx
      clear hkx
      have K5 := Oth.new x1 (vk 4 fun _ => .slice none 0 0) 69
      have H5X : Hid (x1.heap.size < (x1.alloc (.cells (vk 4 fun _ => .slice none 0 0) 69)).heap.size) := by show _ < _; simp
      have HNE : Hid (g6 ≠ x1.heap.size) := by have : g6 < x1.heap.size := (HO.out.lt g6 rfl).2; show _ ≠ _; omega
      have HO : Hid (OwnsL 28 16 (x1.alloc (.cells (vk 4 fun _ => .slice none 0 0) 69)) (w.heap.size + 1) (.slice (some ⟨g6, 0, none⟩) 1 1) [cl 16 f]) := HO.out.alloc _
      have K1 := K1.alloc (.cells (vk 4 fun _ => .slice none 0 0) 69)
      have HB : Hid (Below w.heap.size w (x1.alloc (.cells (vk 4 fun _ => .slice none 0 0) 69))) := HB.out.alloc HB.out.size _
      clear hHeld
      generalize x1.alloc (.cells (vk 4 fun _ => .slice none 0 0) 69) = x2 at *
      generalize x1.heap.size = b5 at *
      refine hK.out _ _ K1 (fun hHeld => ?_)
      clear hK K
      try simp only [Act.put, List.setIfInBounds_toArray, List.set_cons_zero, List.set_cons_succ]
      refine wpAnyH_ready (rs := [2]) (by kernel_rfl) (by simp) ?_
      refine AllReadyH.cons rfl (fun K hK => ?_) AllReadyH.nil
      go_simp
      refine (l6Lists_any f d _ HV.out HD.out).mono ?_
      rintro e x3 ⟨v, rfl, hl, hb⟩
      have H1 := Lib.hid (listsOne hl)
      have hkx := K1.lt
      have K1 := K1.below hb K1.lt
      have HB : Hid (Below w.heap.size w x3) := HB.out.trans (hb.mono HB.out.size)
      have HO : Hid (OwnsL 28 16 x3 (w.heap.size + 1) (.slice (some ⟨g6, 0, none⟩) 1 1) [cl 16 f]) := HO.out.below hb
      have HL : Hid (LinesN x3 b5 f d v) := linesN_low hl H5X.out
      have K5 := K5.below hb K5.lt
      clear hl hb hHeld hkx
      go_wp2_with fail
      refine hK.out _ _ K1 (fun hHeld => ?_)
      clear hK K
      try simp only [Act.put, List.setIfInBounds_toArray, List.set_cons_zero, List.set_cons_succ]
      refine wpAnyH_ready (rs := [6]) (by kernel_rfl) (by simp) ?_
      refine AllReadyH.cons rfl (fun K hK => ?_) AllReadyH.nil
      rw [if_pos (by rfl)]
      refine wp_store_vk _ _ _ rfl rfl rfl K5 sizeLL H1.out rfl ?_
      have hw5 : w.heap.size < b5 := H5W.out
      have K1 := K1.rowOther b5 (vk 4 v) (by omega)
      have HB : Hid (Below w.heap.size w (x3.setRow b5 (vk 4 v))) := below_setRow HB.out (by omega) _
      have HO : Hid (OwnsL 28 16 (x3.setRow b5 (vk 4 v)) (w.heap.size + 1) (.slice (some ⟨g6, 0, none⟩) 1 1) [cl 16 f]) := OwnsL.rowO HO.out K5 _ (by simp only [Value.ownBlock]; intro e; cases e; exact HNE.out rfl)
      have HL : Hid (LinesN (x3.setRow b5 (vk 4 v)) b5 f d v) := HL.out.row _
      have K5 := K5.row (vk 4 v)
      clear hHeld hw5
      generalize x3.setRow b5 (vk 4 v) = x4 at *
      refine hK.out _ _ K1 (fun hHeld => ?_)
      clear hK K
      try simp only [Act.put, List.setIfInBounds_toArray, List.set_cons_zero, List.set_cons_succ]
      refine wpAnyH_take (i := 7) (oi := { dst := some 6, op := _, type := _, pos := _, after := _, guard := _ }) (v := .slice (some ⟨g6, 0, none⟩) 1 1) rfl (by kernel_rfl) (by kernel_rfl) (by kernel_rfl) (fun _ _ _ h => h) (Or.inl ⟨by rfl, by intro w hSw; clear hSw; go_simp; (try with_reducible rfl)⟩) (by assumption) ?_
      try simp only [Act.put, List.setIfInBounds_toArray, List.set_cons_zero, List.set_cons_succ]
      refine wpAnyH_done (by kernel_rfl) ?_ _
      clear hHeld
      go_wp2_with fail
      go_meet
      case rel => exact ⟨b5, g6, v, rfl, rfl, K1, K5, HL.out, HO.out, HB.out, H5W.out⟩
    refine AllReadyH.cons rfl (fun K hK => ?_) AllReadyH.nil
    rw [if_pos (by rfl)]
    refine wp_allocL 5 rfl rfl ?_
    have hkx := K1.lt
    have H5W := Lib.hid hkx
    clear hkx
    have K5 := Oth.new x0 (vk 4 fun _ => .slice none 0 0) 69
    have H5X : Hid (x0.heap.size < (x0.alloc (.cells (vk 4 fun _ => .slice none 0 0) 69)).heap.size) := by show _ < _; simp
    have K1 := K1.alloc (.cells (vk 4 fun _ => .slice none 0 0) 69)
    have HB : Hid (Below w.heap.size w (x0.alloc (.cells (vk 4 fun _ => .slice none 0 0) 69))) := HB.out.alloc HB.out.size _
    clear hHeld
    generalize x0.alloc (.cells (vk 4 fun _ => .slice none 0 0) 69) = x1 at *
    generalize x0.heap.size = b5 at *
    refine hK.out _ _ K1 (fun hHeld => ?_)
    clear hK K
    try simp only [Act.put, List.setIfInBounds_toArray, List.set_cons_zero, List.set_cons_succ]
    refine wpAnyH_ready (rs := [2, 4]) (by kernel_rfl) (by simp) ?_
    refine AllReadyH.cons rfl (fun K hK => ?_) ?_
    · go_simp
      refine (l6Lists_any f d _ HV.out HD.out).mono ?_
      rintro e x2 ⟨v, rfl, hl, hb⟩
      have H1 := Lib.hid (listsOne hl)
      have hkx := K1.lt
      have K1 := K1.below hb K1.lt
      have HB : Hid (Below w.heap.size w x2) := HB.out.trans (hb.mono HB.out.size)
      have HL : Hid (LinesN x2 b5 f d v) := linesN_low hl H5X.out
      have K5 := K5.below hb K5.lt
      clear hl hb hHeld hkx
      go_wp2_with fail
      refine hK.out _ _ K1 (fun hHeld => ?_)
      clear hK K
      try simp only [Act.put, List.setIfInBounds_toArray, List.set_cons_zero, List.set_cons_succ]
      refine wpAnyH_ready (rs := [4, 6]) (by kernel_rfl) (by simp) ?_
      refine AllReadyH.cons rfl (fun K hK => ?_) ?_
      · rw [if_pos (by rfl)]
        refine wp_buildBd 15 _ rfl rfl (f := f) rfl ?_
        have hkx := K1.lt
        have HO : Hid (OwnsL 28 16 (x2.alloc (.cells (mk 16 f) 28)) (w.heap.size + 1) (.slice (some ⟨x2.heap.size, 0, none⟩) 1 1) [cl 16 f]) := OwnsL.one x2 f (by omega) (by omega)
        have HNE : Hid (x2.heap.size ≠ b5) := by have := K5.lt; show _ ≠ _; omega
        have K1 := K1.alloc (.cells (mk 16 f) 28)
        have HB : Hid (Below w.heap.size w (x2.alloc (.cells (mk 16 f) 28))) := HB.out.alloc HB.out.size _
        have K5 := K5.alloc (.cells (mk 16 f) 28)
        have H5Y : Hid (b5 < (x2.alloc (.cells (mk 16 f) 28)).heap.size) := K5.lt
        clear H5X
        have H5X := H5Y
        clear H5Y
        have HL : Hid (LinesN (x2.alloc (.cells (mk 16 f) 28)) b5 f d v) := HL.out.alloc _
        clear hHeld hkx
        generalize x2.alloc (.cells (mk 16 f) 28) = x3 at *
        generalize x2.heap.size = g6 at *
        refine hK.out _ _ K1 (fun hHeld => ?_)
        clear hK K
        try simp only [Act.put, List.setIfInBounds_toArray, List.set_cons_zero, List.set_cons_succ]
        refine wpAnyH_ready (rs := [6]) (by kernel_rfl) (by simp) ?_
        refine AllReadyH.cons rfl (fun K hK => ?_) AllReadyH.nil
        rw [if_pos (by rfl)]
        refine wp_store_vk _ _ _ rfl rfl rfl K5 sizeLL H1.out rfl ?_
        have hw5 : w.heap.size < b5 := H5W.out
        have K1 := K1.rowOther b5 (vk 4 v) (by omega)
        have HB : Hid (Below w.heap.size w (x3.setRow b5 (vk 4 v))) := below_setRow HB.out (by omega) _
        have HO : Hid (OwnsL 28 16 (x3.setRow b5 (vk 4 v)) (w.heap.size + 1) (.slice (some ⟨g6, 0, none⟩) 1 1) [cl 16 f]) := OwnsL.rowO HO.out K5 _ (by simp only [Value.ownBlock]; intro e; cases e; exact HNE.out rfl)
        have HL : Hid (LinesN (x3.setRow b5 (vk 4 v)) b5 f d v) := HL.out.row _
        have K5 := K5.row (vk 4 v)
        clear hHeld hw5
        generalize x3.setRow b5 (vk 4 v) = x4 at *
        refine hK.out _ _ K1 (fun hHeld => ?_)
        clear hK K
        try simp only [Act.put, List.setIfInBounds_toArray, List.set_cons_zero, List.set_cons_succ]
        refine wpAnyH_take (i := 7) (oi := { dst := some 6, op := _, type := _, pos := _, after := _, guard := _ }) (v := .slice (some ⟨g6, 0, none⟩) 1 1) rfl (by kernel_rfl) (by kernel_rfl) (by kernel_rfl) (fun _ _ _ h => h) (Or.inl ⟨by rfl, by intro w hSw; clear hSw; go_simp; (try with_reducible rfl)⟩) (by assumption) ?_
        try simp only [Act.put, List.setIfInBounds_toArray, List.set_cons_zero, List.set_cons_succ]
        refine wpAnyH_done (by kernel_rfl) ?_ _
        clear hHeld
        go_wp2_with fail
        go_meet
        case rel => exact ⟨b5, g6, v, rfl, rfl, K1, K5, HL.out, HO.out, HB.out, H5W.out⟩
      refine AllReadyH.cons rfl (fun K hK => ?_) AllReadyH.nil
      rw [if_pos (by rfl)]
      refine wp_store_vk _ _ _ rfl rfl rfl K5 sizeLL H1.out rfl ?_
      have hw5 : w.heap.size < b5 := H5W.out
      have K1 := K1.rowOther b5 (vk 4 v) (by omega)
      have HB : Hid (Below w.heap.size w (x2.setRow b5 (vk 4 v))) := below_setRow HB.out (by omega) _
      have HL : Hid (LinesN (x2.setRow b5 (vk 4 v)) b5 f d v) := HL.out.row _
      have K5 := K5.row (vk 4 v)
      clear hHeld hw5
      generalize x2.setRow b5 (vk 4 v) = x3 at *
      refine hK.out _ _ K1 (fun hHeld => ?_)
      clear hK K
      try simp only [Act.put, List.setIfInBounds_toArray, List.set_cons_zero, List.set_cons_succ]
      refine wpAnyH_ready (rs := [4]) (by kernel_rfl) (by simp) ?_
      refine AllReadyH.cons rfl (fun K hK => ?_) AllReadyH.nil
      rw [if_pos (by rfl)]
      refine wp_buildBd 15 _ rfl rfl (f := f) rfl ?_
      have hkx := K1.lt
      have HO : Hid (OwnsL 28 16 (x3.alloc (.cells (mk 16 f) 28)) (w.heap.size + 1) (.slice (some ⟨x3.heap.size, 0, none⟩) 1 1) [cl 16 f]) := OwnsL.one x3 f (by omega) (by omega)
      have HNE : Hid (x3.heap.size ≠ b5) := by have := K5.lt; show _ ≠ _; omega
      have K1 := K1.alloc (.cells (mk 16 f) 28)
      have HB : Hid (Below w.heap.size w (x3.alloc (.cells (mk 16 f) 28))) := HB.out.alloc HB.out.size _
      have K5 := K5.alloc (.cells (mk 16 f) 28)
      have H5Y : Hid (b5 < (x3.alloc (.cells (mk 16 f) 28)).heap.size) := K5.lt
      clear H5X
      have H5X := H5Y
      clear H5Y
      have HL : Hid (LinesN (x3.alloc (.cells (mk 16 f) 28)) b5 f d v) := HL.out.alloc _
      clear hHeld hkx
      generalize x3.alloc (.cells (mk 16 f) 28) = x4 at *
      generalize x3.heap.size = g6 at *
      refine hK.out _ _ K1 (fun hHeld => ?_)
      clear hK K
      try simp only [Act.put, List.setIfInBounds_toArray, List.set_cons_zero, List.set_cons_succ]
      refine wpAnyH_take (i := 7) (oi := { dst := some 6, op := _, type := _, pos := _, after := _, guard := _ }) (v := .slice (some ⟨g6, 0, none⟩) 1 1) rfl (by kernel_rfl) (by kernel_rfl) (by kernel_rfl) (fun _ _ _ h => h) (Or.inl ⟨by rfl, by intro w hSw; clear hSw; go_simp; (try with_reducible rfl)⟩) (by assumption) ?_
      try simp only [Act.put, List.setIfInBounds_toArray, List.set_cons_zero, List.set_cons_succ]
      refine wpAnyH_done (by kernel_rfl) ?_ _
      clear hHeld
      go_wp2_with fail
      go_meet
      case rel => exact ⟨b5, g6, v, rfl, rfl, K1, K5, HL.out, HO.out, HB.out, H5W.out⟩
    refine AllReadyH.cons rfl (fun K hK => ?_) AllReadyH.nil
    rw [if_pos (by rfl)]
    refine wp_buildBd 15 _ rfl rfl (f := f) rfl ?_
    have hkx := K1.lt
    have HO : Hid (OwnsL 28 16 (x1.alloc (.cells (mk 16 f) 28)) (w.heap.size + 1) (.slice (some ⟨x1.heap.size, 0, none⟩) 1 1) [cl 16 f]) := OwnsL.one x1 f (by omega) (by omega)
    have HNE : Hid (x1.heap.size ≠ b5) := by have := K5.lt; show _ ≠ _; omega
    have K1 := K1.alloc (.cells (mk 16 f) 28)
    have HB : Hid (Below w.heap.size w (x1.alloc (.cells (mk 16 f) 28))) := HB.out.alloc HB.out.size _
    have K5 := K5.alloc (.cells (mk 16 f) 28)
    have H5Y : Hid (b5 < (x1.alloc (.cells (mk 16 f) 28)).heap.size) := K5.lt
    clear H5X
    have H5X := H5Y
    clear H5Y
    clear hHeld hkx
    generalize x1.alloc (.cells (mk 16 f) 28) = x2 at *
    generalize x1.heap.size = g6 at *
    refine hK.out _ _ K1 (fun hHeld => ?_)
    clear hK K
    try simp only [Act.put, List.setIfInBounds_toArray, List.set_cons_zero, List.set_cons_succ]
    refine wpAnyH_ready (rs := [2]) (by kernel_rfl) (by simp) ?_
    refine AllReadyH.cons rfl (fun K hK => ?_) AllReadyH.nil
    go_simp
    refine (l6Lists_any f d _ HV.out HD.out).mono ?_
    rintro e x3 ⟨v, rfl, hl, hb⟩
    have H1 := Lib.hid (listsOne hl)
    have hkx := K1.lt
    have K1 := K1.below hb K1.lt
    have HB : Hid (Below w.heap.size w x3) := HB.out.trans (hb.mono HB.out.size)
    have HO : Hid (OwnsL 28 16 x3 (w.heap.size + 1) (.slice (some ⟨g6, 0, none⟩) 1 1) [cl 16 f]) := HO.out.below hb
    have HL : Hid (LinesN x3 b5 f d v) := linesN_low hl H5X.out
    have K5 := K5.below hb K5.lt
    clear hl hb hHeld hkx
    go_wp2_with fail
    refine hK.out _ _ K1 (fun hHeld => ?_)
    clear hK K
    try simp only [Act.put, List.setIfInBounds_toArray, List.set_cons_zero, List.set_cons_succ]
    refine wpAnyH_ready (rs := [6]) (by kernel_rfl) (by simp) ?_
    refine AllReadyH.cons rfl (fun K hK => ?_) AllReadyH.nil
    rw [if_pos (by rfl)]
    refine wp_store_vk _ _ _ rfl rfl rfl K5 sizeLL H1.out rfl ?_
    have hw5 : w.heap.size < b5 := H5W.out
    have K1 := K1.rowOther b5 (vk 4 v) (by omega)
    have HB : Hid (Below w.heap.size w (x3.setRow b5 (vk 4 v))) := below_setRow HB.out (by omega) _
    have HO : Hid (OwnsL 28 16 (x3.setRow b5 (vk 4 v)) (w.heap.size + 1) (.slice (some ⟨g6, 0, none⟩) 1 1) [cl 16 f]) := OwnsL.rowO HO.out K5 _ (by simp only [Value.ownBlock]; intro e; cases e; exact HNE.out rfl)
    have HL : Hid (LinesN (x3.setRow b5 (vk 4 v)) b5 f d v) := HL.out.row _
    have K5 := K5.row (vk 4 v)
    clear hHeld hw5
    generalize x3.setRow b5 (vk 4 v) = x4 at *
    refine hK.out _ _ K1 (fun hHeld => ?_)
    clear hK K
    try simp only [Act.put, List.setIfInBounds_toArray, List.set_cons_zero, List.set_cons_succ]
    refine wpAnyH_take (i := 7) (oi := { dst := some 6, op := _, type := _, pos := _, after := _, guard := _ }) (v := .slice (some ⟨g6, 0, none⟩) 1 1) rfl (by kernel_rfl) (by kernel_rfl) (by kernel_rfl) (fun _ _ _ h => h) (Or.inl ⟨by rfl, by intro w hSw; clear hSw; go_simp; (try with_reducible rfl)⟩) (by assumption) ?_
    try simp only [Act.put, List.setIfInBounds_toArray, List.set_cons_zero, List.set_cons_succ]
    refine wpAnyH_done (by kernel_rfl) ?_ _
    clear hHeld
    go_wp2_with fail
    go_meet
    case rel => exact ⟨b5, g6, v, rfl, rfl, K1, K5, HL.out, HO.out, HB.out, H5W.out⟩
  case rest =>
    clear K1 HB zl
    obtain ⟨b5, g6, v, rfl, rfl, K1, K5, hl, ho, hb, hb5⟩ := hcut
    have HL := Lib.hid hl
    have HO : Hid (OwnsL 28 16 wc (w.heap.size + 1) (.slice (some ⟨g6, 0, none⟩) 1 1) (spS f d 0)) := ho
    have HB := Lib.hid hb
    clear hl ho hb K1
    go_wp2_with fail
    go_loopg [6, 7] 4 (fun gk s6 s7 wr => ∃ (i : Nat) (u : Value), i + gk = 4 ∧ s7 = .int .i64 i ∧ u = s6 ∧ (∃ gg cap, u = .slice (some ⟨gg, 0, none⟩) (spS f d i).length cap) ∧ Hid (OwnsL 28 16 wr (w.heap.size + 1) u (spS f d i)) ∧ Oth wr b5 (vk 4 v) 69 ∧ Hid (LinesN wr b5 f d v) ∧ Hid (Below w.heap.size w wr))
    case atStart => exact ⟨0, _, by omega, rfl, rfl, ⟨_, _, rfl⟩, HO, K5, HL, HB⟩
    case round =>
      clear HO K5 HL HB
      obtain ⟨i, u, hig, rfl, rfl, ⟨gs, cs, hu⟩, HO, K5, HL, HB⟩ := hrel
      subst hu
      cases gk with
      | zero =>
        have hi4 : ¬ ((i : Int) < 4) := by omega
        obtain rfl : i = 4 := by omega
        go_wp2_with fail
        go_ret
        exact ⟨gs, cs, rfl, HO.out.wide (by omega), HB.out⟩
      | succ q1 =>
        have hi4 : (i : Int) < 4 := by omega
        have hi0 : (0 : Int) ≤ (i : Int) := by omega
        have hi9 : i < 4 := by omega
        obtain ⟨gl, cl0, hv, hgl, CR⟩ := HL.out i hi9
        have hsz := HB.out.size
        have hgs : gs < wr.heap.size := (HO.out.lt gs rfl).2
        obtain ⟨_, _, e1, _, hcs⟩ := KRow.of_list (spS_all f d i) HO.out
        cases e1
        have H6 : Hid (OwnsL 28 16 (wr.alloc (.cells #[] 28)) wr.heap.size (.slice (some ⟨wr.heap.size, 0, none⟩) 0 0) []) := OwnsL.made wr (Nat.le_refl _)
        have H6S : Hid (gs < wr.heap.size) := hgs
        have H65 : Hid (b5 < wr.heap.size) := K5.lt
        have H6L : Hid (gl < wr.heap.size) := CR.1
        have H6N : Hid (∀ i, i < 4 → ∀ g n c, v i = .slice (some ⟨g, 0, none⟩) n c → g < wr.heap.size) := fun j hj g n c e => by
          obtain ⟨g', c', e', _, h3⟩ := HL.out j hj
          rw [e'] at e; cases e; exact h3.1
        have H6W : Hid (w.heap.size ≤ wr.heap.size) := hsz
        have CS := hcs.alloc (.cells #[] 28)
        have CR := CR.alloc (.cells #[] 28)
        have K5 := K5.alloc (.cells #[] 28)
        have HL : Hid (LinesN (wr.alloc (.cells #[] 28)) b5 f d v) := HL.out.alloc _
        have HB : Hid (Below w.heap.size w (wr.alloc (.cells #[] 28))) := HB.out.alloc HB.out.size _
        have HNX : Hid ((spS f d i).length ≤ 50625) := by show _ ≤ _; rw [HSL.out i]; exact HCB.out i (by omega)
        have HGA : Hid (gP (gS d i) (spS f d i) (lnR f d i) (spS f d i).length = spS f d (i + 1)) := gP_all _ _ _
        have HXA : Hid (∀ n, n < (spS f d i).length → ∃ x, (spS f d i)[n]? = some x ∧ ∀ c, c < 16 → flatF (spS f d i) (n * 16 + c) = fn x c) := fun n hn => ⟨_, List.getElem?_eq_getElem hn, fun c hc => flatF_at (spS_all f d i) (List.getElem?_eq_getElem hn) hc⟩
        have HRA : Hid (∀ k, k < (lnR f d i).length → ∃ r, (lnR f d i)[k]? = some r ∧ ∀ c, c < 4 → flatF (lnR f d i) (k * 4 + c) = fn r c) := fun k hk => ⟨_, List.getElem?_eq_getElem hk, fun c hc => flatF_at (lnR_all f d i) (List.getElem?_eq_getElem hk) hc⟩
        have hn15 := lnR_15 f d i
        have HZ : Hid (∀ n, (gP (gS d i) (spS f d i) (lnR f d i) n).length ≤ n * (lnR f d i).length) := gP_len _ _ _
        have HVI := Lib.hid hv
        have HWB : Hid (w.heap.size + 1 ≤ wr.heap.size) := by show _ ≤ _; have := (HO.out.lt gs rfl).1; omega
        clear hv hcs HO
        go_wp2_with fail
        have h6 : wr.heap.size ≤ (wr.alloc (.cells #[] 28)).heap.size := by simp
        generalize wr.alloc (.cells #[] 28) = w2 at *
        generalize wr.heap.size = b6 at *
        generalize hX : spS f d i = X at *
        generalize hNX : X.length = nX at *
        generalize hHS : flatF X = hS at *
        generalize hR : lnR f d i = R at *
        generalize hNR : R.length = nR at *
        generalize hHR : flatF R = hR2 at *
        clear hX hHS hHR
        go_loopg [8, 9] nX (fun gn s8 s9 wx => ∃ (n : Nat) (u : Value), n + gn = nX ∧ s9 = .int .i64 n ∧ u = s8 ∧ (∃ gg cap, u = .slice (some ⟨gg, 0, none⟩) (gP (gS d i) X R n).length cap) ∧ Hid (OwnsL 28 16 wx b6 u (gP (gS d i) X R n)) ∧ CAt wx gs (nX * 16) hS ∧ CAt wx gl (nR * 4) hR2 ∧ Oth wx b5 (vk 4 v) 69 ∧ Hid (LinesN wx b5 f d v) ∧ b6 ≤ wx.heap.size ∧ Hid (Below w.heap.size w wx))
        case atStart => exact ⟨0, _, by omega, rfl, rfl, ⟨_, _, rfl⟩, H6, CS, CR, K5, HL, h6, HB⟩
        case round =>
          clear H6 CS CR K5 HL h6 HB
          obtain ⟨n, u, hng, rfl, rfl, ⟨gg, cap, hu⟩, HO, CS, CR, K5, HL, h6, HB⟩ := hrel
          subst hu
          cases gk with
          | zero =>
            have hn : ¬ ((n : Int) < (nX : Int)) := by omega
            obtain rfl : n = nX := by omega
            go_wp2_with fail
            go_roundg q1
            case rel => exact ⟨i + 1, _, by omega, by go_num, rfl, ⟨gg, cap, by rw [← HGA.out]⟩, by rw [← HGA.out]; exact HO.out.wide HWB.out, K5, HL, HB⟩
            case measure => omega
          | succ q2 =>
            have hn : (n : Int) < (nX : Int) := by omega
            have hn0 : (0 : Int) ≤ (n : Int) := by omega
            have hn9 : n < nX := by omega
            obtain ⟨x, hx, hxc⟩ := HXA.out n (by omega)
            have HGQ := Lib.hid (gQ_all (g := gS d i) (R := R) hx)
            have HXC := Lib.hid hxc
            have hgp : (gP (gS d i) X R n).length ≤ 759375 := by
              have h1 := HZ.out n
              have h2 : n * nR ≤ 50625 * 15 := Nat.mul_le_mul (by have := HNX.out; omega) hn15
              omega
            clear hxc
            go_wp2_with fail
            generalize hA : gP (gS d i) X R n = A at *
            have HQ0 : Hid (gQ (gS d i) A x R 0 = A) := gQ_zero _ _ _ _
            clear hA
            have HQL : Hid (∀ k, k ≤ nR → (gQ (gS d i) A x R k).length ≤ A.length + 15) := fun k hk => by have := gQ_len (gS d i) A x R k; omega
            rw [hNR] at HGQ
            go_loopg [8, 10] nR (fun gj s8 s10 wy => ∃ (k : Nat) (u : Value), k + gj = nR ∧ s10 = .int .i64 k ∧ u = s8 ∧ (∃ gg cap, u = .slice (some ⟨gg, 0, none⟩) (gQ (gS d i) A x R k).length cap) ∧ Hid (OwnsL 28 16 wy b6 u (gQ (gS d i) A x R k)) ∧ CAt wy gs (nX * 16) hS ∧ CAt wy gl (nR * 4) hR2 ∧ Oth wy b5 (vk 4 v) 69 ∧ Hid (LinesN wy b5 f d v) ∧ b6 ≤ wy.heap.size ∧ Hid (Below w.heap.size w wy))
            case atStart => exact ⟨0, _, by omega, rfl, rfl, ⟨gg, cap, by rw [HQ0.out]⟩, by rw [HQ0.out]; exact HO, CS, CR, K5, HL, h6, HB⟩
            case round =>
              clear HO CS CR K5 HL h6 HB
              obtain ⟨k, u, hkg, rfl, rfl, ⟨gg, cap, hu⟩, HO, CS, CR, K5, HL, h6, HB⟩ := hrel
              subst hu
              have c5 := K5.get (i := i) hi9
              rw [HVI.out] at c5
              cases gk with
              | zero =>
                have hk : ¬ ((k : Int) < (nR : Int)) := by omega
                obtain rfl : k = nR := by omega
                have hnx := HNX.out
                go_wp2_with fail
                go_roundg q2
                case rel => exact ⟨n + 1, _, by omega, by go_num, rfl, ⟨gg, cap, by rw [← HGQ.out]⟩, by rw [← HGQ.out]; exact HO, CS, CR, K5, HL, h6, HB⟩
                case measure => omega
              | succ q3 =>
                have hk : (k : Int) < (nR : Int) := by omega
                have hk0 : (0 : Int) ≤ (k : Int) := by omega
                have hk9 : k < nR := by omega
                obtain ⟨r, hr, hrc⟩ := HRA.out k (by omega)
                have HGS := Lib.hid (gQ_step (g := gS d i) (A := A) (x := x) hr)
                have hql := HQL.out k (by omega)
                have HGV : Hid (cl 16 (withF d i (fun j => hS (n * 16 + j)) (fun j => hR2 (k * 4 + j))) = gS d i x r) := cl_inj.2 fun j hj => by
                  have hp := placeOf_lt (d := d) hj
                  unfold withF
                  by_cases q : lineOf d j = i
                  · rw [if_pos q, if_pos q]; exact hrc _ hp
                  · rw [if_neg q, if_neg q]; exact HXC.out j hj
                clear hrc
                go_wp2_with fail
                clear c5
                refine wp_region_held_drew (S := fun W => CAt W gs (nX * 16) hS ∧ Oth W b5 (vk 4 v) 69 ∧ CAt W gl (nR * 4) hR2) (by kernel_rfl) (⟨CS.drew, K5.drew, CR.drew⟩) (fun hHeld => ?_)
                have CS : CAt wr.drew gs (nX * 16) hS := CS.drew
                have K5 : Oth wr.drew b5 (vk 4 v) 69 := K5.drew
                have CR : CAt wr.drew gl (nR * 4) hR2 := CR.drew
                have HB : Hid (Below w.heap.size w wr.drew) := HB.out.drew
                have HL : Hid (LinesN wr.drew b5 f d v) := HL.out
                have HO : Hid (OwnsL 28 16 wr.drew b6 (.slice (some ⟨gg, 0, none⟩) (gQ (gS d i) A x R k).length cap) (gQ (gS d i) A x R k)) := HO.out
                have h6x : b6 ≤ wr.drew.heap.size := h6
                generalize wr.drew = x0 at *
                refine wpAnyH_take (i := 0) (oi := { dst := some 35, op := _, type := _, pos := _, after := _, guard := _ }) (v := .slice (some ⟨gg, 0, none⟩) (gQ (gS d i) A x R k).length cap) rfl (by kernel_rfl) (by kernel_rfl) (by kernel_rfl) (fun _ _ _ h => h) (Or.inl ⟨by rfl, by intro w hSw; clear hSw; go_simp; (try with_reducible rfl)⟩) (by assumption) ?_
                try simp only [Act.put, List.setIfInBounds_toArray, List.set_cons_zero, List.set_cons_succ]
                refine wpAnyH_take (i := 1) (oi := { dst := some 36, op := _, type := _, pos := _, after := _, guard := _ }) (v := .slice (some ⟨gs, 0, none⟩) nX cs) rfl (by kernel_rfl) (by kernel_rfl) (by kernel_rfl) (fun _ _ _ h => h) (Or.inl ⟨by rfl, by intro w hSw; clear hSw; go_simp; (try with_reducible rfl)⟩) (by assumption) ?_
                try simp only [Act.put, List.setIfInBounds_toArray, List.set_cons_zero, List.set_cons_succ]
                refine wpAnyH_take (i := 2) (oi := { dst := some 37, op := _, type := _, pos := _, after := _, guard := _ }) (v := .int .i64 (n : Int)) rfl (by kernel_rfl) (by kernel_rfl) (by kernel_rfl) (fun _ _ _ h => h) (Or.inl ⟨by rfl, by intro w hSw; clear hSw; go_simp; (try with_reducible rfl)⟩) (by assumption) ?_
                try simp only [Act.put, List.setIfInBounds_toArray, List.set_cons_zero, List.set_cons_succ]
                refine wpAnyH_take (i := 3) (oi := { dst := some 38, op := _, type := _, pos := _, after := _, guard := _ }) (v := .pointer (some ⟨gs, n * 16, none⟩)) rfl (by kernel_rfl) (by kernel_rfl) (by kernel_rfl) (fun _ _ _ h => h) (Or.inl ⟨by rfl, by intro w hSw; clear hSw; go_simp; (try with_reducible rfl)⟩) (by assumption) ?_
                try simp only [Act.put, List.setIfInBounds_toArray, List.set_cons_zero, List.set_cons_succ]
                refine wpAnyH_take (i := 4) (oi := { dst := some 39, op := _, type := _, pos := _, after := _, guard := _ }) (v := .agg (mk 16 fun j => hS (n * 16 + j))) rfl (by kernel_rfl) (by kernel_rfl) (by kernel_rfl) (fun _ _ _ h => h) (Or.inl ⟨by rfl, fun _ q => execAB q.1 (by omega) rfl rfl⟩) (by assumption) ?_
                try simp only [Act.put, List.setIfInBounds_toArray, List.set_cons_zero, List.set_cons_succ]
                refine wpAnyH_take (i := 5) (oi := { dst := some 40, op := _, type := _, pos := _, after := _, guard := _ }) (v := .int .i64 (d : Int)) rfl (by kernel_rfl) (by kernel_rfl) (by kernel_rfl) (fun _ _ _ h => h) (Or.inl ⟨by rfl, by intro w hSw; clear hSw; go_simp; (try with_reducible rfl)⟩) (by assumption) ?_
                try simp only [Act.put, List.setIfInBounds_toArray, List.set_cons_zero, List.set_cons_succ]
                refine wpAnyH_take (i := 6) (oi := { dst := some 41, op := _, type := _, pos := _, after := _, guard := _ }) (v := .int .i64 (i : Int)) rfl (by kernel_rfl) (by kernel_rfl) (by kernel_rfl) (fun _ _ _ h => h) (Or.inl ⟨by rfl, by intro w hSw; clear hSw; go_simp; (try with_reducible rfl)⟩) (by assumption) ?_
                try simp only [Act.put, List.setIfInBounds_toArray, List.set_cons_zero, List.set_cons_succ]
                refine wpAnyH_take (i := 7) (oi := { dst := some 42, op := _, type := _, pos := _, after := _, guard := _ }) (v := .int .i64 (i : Int)) rfl (by kernel_rfl) (by kernel_rfl) (by kernel_rfl) (fun _ _ _ h => h) (Or.inl ⟨by rfl, by intro w hSw; clear hSw; go_simp; (try with_reducible rfl)⟩) (by assumption) ?_
                try simp only [Act.put, List.setIfInBounds_toArray, List.set_cons_zero, List.set_cons_succ]
                refine wpAnyH_take (i := 8) (oi := { dst := some 43, op := _, type := _, pos := _, after := _, guard := _ }) (v := .pointer (some ⟨b5, i, none⟩)) rfl (by kernel_rfl) (by kernel_rfl) (by kernel_rfl) (fun _ _ _ h => h) (Or.inl ⟨by rfl, by intro w hSw; clear hSw; go_simp; (try with_reducible rfl)⟩) (by assumption) ?_
                try simp only [Act.put, List.setIfInBounds_toArray, List.set_cons_zero, List.set_cons_succ]
                refine wpAnyH_take (i := 9) (oi := { dst := some 44, op := _, type := _, pos := _, after := _, guard := _ }) (v := .slice (some ⟨gl, 0, none⟩) nR cl0) rfl (by kernel_rfl) (by kernel_rfl) (by kernel_rfl) (fun _ _ _ h => h) (Or.inl ⟨by rfl, fun _ q => execLS ((q.2.1.get hi9).trans (congrArg some HVI.out)) rfl rfl⟩) (by assumption) ?_
                try simp only [Act.put, List.setIfInBounds_toArray, List.set_cons_zero, List.set_cons_succ]
                refine wpAnyH_take (i := 10) (oi := { dst := some 45, op := _, type := _, pos := _, after := _, guard := _ }) (v := .int .i64 (k : Int)) rfl (by kernel_rfl) (by kernel_rfl) (by kernel_rfl) (fun _ _ _ h => h) (Or.inl ⟨by rfl, by intro w hSw; clear hSw; go_simp; (try with_reducible rfl)⟩) (by assumption) ?_
                try simp only [Act.put, List.setIfInBounds_toArray, List.set_cons_zero, List.set_cons_succ]
                refine wpAnyH_take (i := 11) (oi := { dst := some 46, op := _, type := _, pos := _, after := _, guard := _ }) (v := .pointer (some ⟨gl, k * 4, none⟩)) rfl (by kernel_rfl) (by kernel_rfl) (by kernel_rfl) (fun _ _ _ h => h) (Or.inl ⟨by rfl, by intro w hSw; clear hSw; go_simp; (try with_reducible rfl)⟩) (by assumption) ?_
                try simp only [Act.put, List.setIfInBounds_toArray, List.set_cons_zero, List.set_cons_succ]
                refine wpAnyH_take (i := 12) (oi := { dst := some 47, op := _, type := _, pos := _, after := _, guard := _ }) (v := .agg (mk 4 fun j => hR2 (k * 4 + j))) rfl (by kernel_rfl) (by kernel_rfl) (by kernel_rfl) (fun _ _ _ h => h) (Or.inl ⟨by rfl, fun _ q => execAR q.2.2 (by omega) rfl rfl⟩) (by assumption) ?_
                try simp only [Act.put, List.setIfInBounds_toArray, List.set_cons_zero, List.set_cons_succ]
                refine wpAnyH_ready (rs := [13]) (by kernel_rfl) (by simp) ?_
                refine AllReadyH.cons rfl (fun K hK => ?_) AllReadyH.nil
                go_simp
                refine (l6With_any _ _ d i _ HD.out hi9).mono ?_
                rintro e x1 ⟨rfl, hb⟩
                have CS := CS.below hb
                have K5 := K5.below hb K5.lt
                have CR := CR.below hb
                have HL : Hid (LinesN x1 b5 f d v) := HL.out.below hb
                have HO : Hid (OwnsL 28 16 x1 b6 (.slice (some ⟨gg, 0, none⟩) (gQ (gS d i) A x R k).length cap) (gQ (gS d i) A x R k)) := HO.out.below hb
                have HB : Hid (Below w.heap.size w x1) := HB.out.trans (hb.mono HB.out.size)
                have h6a : b6 ≤ x1.heap.size := Nat.le_trans h6x hb.size
                clear hb hHeld h6x
                have HGG := Lib.hid HGV.out
                generalize withF d i (fun j => hS (n * 16 + j)) (fun j => hR2 (k * 4 + j)) = G at *
                go_wp2_with fail
                refine hK.out _ _ ⟨CS, K5, CR⟩ (fun hHeld => ?_)
                clear hK K
                try simp only [Act.put, List.setIfInBounds_toArray, List.set_cons_zero, List.set_cons_succ]
                refine wpAnyH_ready (rs := [14]) (by kernel_rfl) (by simp) ?_
                refine AllReadyH.cons rfl (fun K hK => ?_) AllReadyH.nil
                rw [if_pos (by rfl)]
                refine wp_buildB _ rfl (f := G) rfl ?_
                have K9 := Blk.new x1 16 G 28
                have CS := CS.alloc (.cells (mk 16 G) 28)
                have K5 := K5.alloc (.cells (mk 16 G) 28)
                have CR := CR.alloc (.cells (mk 16 G) 28)
                have HL : Hid (LinesN (x1.alloc (.cells (mk 16 G) 28)) b5 f d v) := HL.out.alloc _
                have HO : Hid (OwnsL 28 16 (x1.alloc (.cells (mk 16 G) 28)) b6 (.slice (some ⟨gg, 0, none⟩) (gQ (gS d i) A x R k).length cap) (gQ (gS d i) A x R k)) := HO.out.alloc _
                have HB : Hid (Below w.heap.size w (x1.alloc (.cells (mk 16 G) 28))) := HB.out.alloc HB.out.size _
                have h6b : b6 ≤ (x1.alloc (.cells (mk 16 G) 28)).heap.size := by simp; omega
                clear hHeld h6a
                generalize x1.alloc (.cells (mk 16 G) 28) = x2 at *
                generalize x1.heap.size = b9 at *
                refine hK.out _ _ ⟨CS, K5, CR⟩ (fun hHeld => ?_)
                clear hK K
                try simp only [Act.put, List.setIfInBounds_toArray, List.set_cons_zero, List.set_cons_succ]
                refine wpAnyH_ready (rs := [15]) (by kernel_rfl) (by simp) ?_
                refine AllReadyH.cons rfl (fun K hK => ?_) AllReadyH.nil
                rw [if_pos (by rfl)]
                refine wp_app (v := .slice (some ⟨gg, 0, none⟩) (gQ (gS d i) A x R k).length cap) _ _ 48 rfl b6 28 i0 _ 16 128 Try.underlying48 hi hz0 hz1 hz2 rfl (by decide) rfl HO.out b9 0 1 1 G 16 rfl K9.at (by omega) (by unfold maxLen; omega) (by omega) h6b ?_
                intro v' x3 RR hbl hgr
                obtain ⟨g', cap', hv'⟩ := ownsRow_succ RR
                have HVv : Hid (v' = .slice (some ⟨g', 0, none⟩) (gQ (gS d i) A x R (k + 1)).length cap') := by show _ = _; rw [HGS.out, List.length_append]; exact hv'
                have HO : Hid (OwnsL 28 16 x3 b6 v' (gQ (gS d i) A x R (k + 1))) := by
                  rw [show (mk (1 * 16) fun j => G (0 + j)) = mk 16 G from mk_congr fun j _ => by rw [Nat.zero_add], snoc_walk0, HGG.out] at RR
                  show OwnsL _ _ _ _ _ _
                  rw [HGS.out]
                  unfold OwnsL
                  rw [List.length_append]
                  exact RR
                have CS := CS.low hbl H6S.out
                have K5 := K5.below hbl H65.out
                have CR := CR.low hbl H6L.out
                have HL : Hid (LinesN x3 b5 f d v) := HL.out.low hbl H6N.out
                have HB : Hid (Below w.heap.size w x3) := HB.out.trans (hbl.mono H6W.out)
                have h6c : b6 ≤ x3.heap.size := Nat.le_trans h6b hgr.size
                clear hbl hgr RR hv' hHeld K9
                refine hK.out _ _ ⟨CS, K5, CR⟩ (fun hHeld => ?_)
                clear hK K
                try simp only [Act.put, List.setIfInBounds_toArray, List.set_cons_zero, List.set_cons_succ]
                refine wpAnyH_take (i := 16) (oi := { dst := some 8, op := _, type := _, pos := _, after := _, guard := _ }) (v := v') rfl (by kernel_rfl) (by kernel_rfl) (by kernel_rfl) (fun _ _ _ h => h) (Or.inl ⟨by rfl, by intro w hSw; clear hSw; go_simp; (try with_reducible rfl)⟩) (by assumption) ?_
                try simp only [Act.put, List.setIfInBounds_toArray, List.set_cons_zero, List.set_cons_succ]
                refine wpAnyH_done (by kernel_rfl) ?_ _
                clear hHeld
                go_wp2_with fail
                go_roundg q3
                case rel => exact ⟨k + 1, _, by omega, by go_num, rfl, ⟨g', cap', HVv.out⟩, HO, CS, CR, K5, HL, h6c, HB⟩
                case measure => omega
end Go.Proofs.Ytphkidkkcknnmaa
