/-
  The contracts of MustMerge and CanMerge in the reference, for every board and every direction.
-/
import Derived.Test.YtphkidkkcknnmaaMergeB
import Derived.Test.YtphkidkkcknnmaaSpecWays
import Derived.Deep.CutBlock
import Derived.RegionTactic
namespace Go.Proofs.Ytphkidkkcknnmaa
open Go.RowKit Plain
attribute [local go_sem] store_new
set_option linter.unusedVariables false
set_option linter.unusedSimpArgs false

theorem l2Line_nat (d i : Nat) (w : World) (hd : d < 4) (hi : i < 4) :
    Calls Try.prog 93 #[.int .i64 (d : Int), .int .i64 (i : Int)] w fun e w' => e = .returned (.agg (mk 8 (lineV d i))) ∧ Below w.heap.size w w' := by
  rcases side4 hd with rfl | rfl | rfl | rfl
  · exact l2Line_0 i w hi
  · exact l2Line_1 i w hi
  · exact l2Line_2 i w hi
  · exact l2Line_3 i w hi
theorem wp_store_vk {P : Program} {o : Oper} {a : Act} {w : World} {K : Act → World → Prop} {Q : Exit → Act → World → Prop} (ty : TypeId) (x y : Operand) (ho : o.op = .store ty x y) {b n : Nat} {v u : Nat → Value} {t : TypeId}
    (hx : a.eval x = .pointer (some ⟨b, 0, none⟩)) (hy : a.eval y = .agg (vk n u)) (hg : Oth w b (vk n v) t)
    (hi : (P.info? ty).map (·.size) = some n) (h1 : (vk n u).all (·.oneCell') = true)
    (hd : o.dst = none) (h : K (a.put none undef) (w.setRow b (vk n u))) : o.wp P a w K Q := by
  rw [← hd] at h
  exact wp_store_row ty x y ho b _ hx hy t _ hg (by rw [vk_size]; exact hi) (by simp [vk_size]) h1 h
theorem wp_allocL {w : World} {o : Oper} {a : Act} {K : Act → World → Prop} {Q : Exit → Act → World → Prop} (d : Tmp) (ho : o.op = .alloc 69) (hd : o.dst = some d)
    (h : K (a.put (some d) (.pointer (some ⟨w.heap.size, 0, none⟩))) (w.alloc (.cells (vk 4 fun _ => .slice none 0 0) 69))) : o.wp Try.prog a w K Q := by
  have zl := zeroL
  unfold Oper.wp
  go_simp
  exact h
namespace Plain
/-- The marks so far: the lines below i, and of the line i the places below p. -/
def mkU (o : Nat → Bool) (d i p : Nat) : Nat → Int := fun j => if (lineOf d j < i ∨ (lineOf d j = i ∧ placeOf d j < p)) ∧ o j = true then 1 else 0
theorem mkU_zero (o : Nat → Bool) (d j : Nat) : mkU o d 0 0 j = 0 := by unfold mkU; rw [if_neg]; rintro ⟨h | h, _⟩ <;> omega
theorem mkU_line (o : Nat → Bool) (d i : Nat) {j : Nat} (hj : j < 16) : mkU o d i 4 j = mkU o d (i + 1) 0 j := by
  have hp := placeOf_lt (d := d) hj
  unfold mkU
  by_cases h : o j = true
  · by_cases q : lineOf d j < i + 1
    · rw [if_pos ⟨by omega, h⟩, if_pos ⟨by omega, h⟩]
    · rw [if_neg (fun e => by have := e.1; omega), if_neg (fun e => by have := e.1; omega)]
  · rw [if_neg (fun e => h e.2), if_neg (fun e => h e.2)]
theorem mkU_no {o : Nat → Bool} {d i p : Nat} (h : o (pos d i p) = false) {j : Nat} (hj : j < 16) : mkU o d i p j = mkU o d i (p + 1) j := by
  unfold mkU
  by_cases e : j = pos d i p
  · rw [e, h]; simp
  · have hne : ¬ (lineOf d j = i ∧ placeOf d j = p) := fun q => e (by rw [← pos_of (d := d) hj, q.1, q.2])
    by_cases ho : o j = true
    · by_cases q : lineOf d j < i ∨ (lineOf d j = i ∧ placeOf d j < p)
      · rw [if_pos ⟨q, ho⟩, if_pos ⟨by omega, ho⟩]
      · rw [if_neg (fun x => q x.1), if_neg (fun x => by have := x.1; omega)]
    · rw [if_neg (fun x => ho x.2), if_neg (fun x => ho x.2)]
theorem mkU_yes {o : Nat → Bool} {d i p : Nat} (hi : i < 4) (hp : p < 4) (h : o (pos d i p) = true) {j : Nat} (hj : j < 16) : upd (mkU o d i p) (pos d i p) 1 j = mkU o d i (p + 1) j := by
  by_cases e : j = pos d i p
  · rw [e, upd_same]; unfold mkU; rw [lineOf_pos hi hp, placeOf_pos hi hp, if_pos ⟨by omega, h⟩]
  · rw [upd_other _ _ e]
    have hne : ¬ (lineOf d j = i ∧ placeOf d j = p) := fun q => e (by rw [← pos_of (d := d) hj, q.1, q.2])
    unfold mkU
    by_cases ho : o j = true
    · by_cases q : lineOf d j < i ∨ (lineOf d j = i ∧ placeOf d j < p)
      · rw [if_pos ⟨q, ho⟩, if_pos ⟨by omega, ho⟩]
      · rw [if_neg (fun x => q x.1), if_neg (fun x => by have := x.1; omega)]
    · rw [if_neg (fun x => ho x.2), if_neg (fun x => ho x.2)]
theorem mkU_all (o : Nat → Bool) {d j : Nat} (hj : j < 16) : mkU o d 4 0 j = if o j then 1 else 0 := by
  have := lineOf_lt (d := d) hj
  unfold mkU
  by_cases ho : o j = true
  · rw [if_pos ⟨by omega, ho⟩, if_pos ho]
  · rw [if_neg (fun x => ho x.2), if_neg ho]
theorem ye_flat {f : Nat → Int} {d i n p : Nat} (hn : n < (lnR f d i).length) : yeN (lnR f d i) p (n + 1) = if mgB (fun c => flatF (lnR f d i) (n * 4 + c)) p then yeN (lnR f d i) p n + 1 else yeN (lnR f d i) p n := by
  have hx : (lnR f d i)[n]? = some (lnR f d i)[n] := List.getElem?_eq_getElem hn
  rw [ye_step hx, mgB_congr (f := fun c => flatF (lnR f d i) (n * 4 + c)) (g := fn (lnR f d i)[n]) fun c hc => flatF_at (lnR_all f d i) hx hc]
end Plain

/-- The lists of rows before the lines, in blocks below one. -/
def LinesT (w : World) (top : Nat) (f : Nat → Int) (d n : Nat) (v : Nat → Value) : Prop := ∀ i, i < n → ∃ g c, v i = .slice (some ⟨g, 0, none⟩) (lnR f d i).length c ∧ g < top ∧ CAt w g ((lnR f d i).length * 4) (flatF (lnR f d i))
section
variable {w w' : World} {base top n : Nat} {f : Nat → Int} {d : Nat} {v : Nat → Value}
theorem LinesB.toT (h : LinesB w base f d n v) : LinesT w w.heap.size f d n v := fun i hi => by
  obtain ⟨g, c, h1, _, h3⟩ := h i hi; exact ⟨g, c, h1, h3.1, h3⟩
theorem LinesT.below (h : LinesT w top f d n v) (hb : Below w.heap.size w w') : LinesT w' top f d n v := fun i hi => by
  obtain ⟨g, c, h1, h2, h3⟩ := h i hi; exact ⟨g, c, h1, h2, h3.below hb⟩
theorem LinesT.alloc (h : LinesT w top f d n v) (o : Obj) : LinesT (w.alloc o) top f d n v := h.below ((Below.refl _ w).alloc (Nat.le_refl _) o)
theorem LinesT.setOther (h : LinesT w top f d n v) (p : Addr) (x : Value) (hp : top ≤ p.block) : LinesT (w.setCell p x) top f d n v := fun i hi => by
  obtain ⟨g, c, h1, h2, h3⟩ := h i hi; exact ⟨g, c, h1, h2, h3.setOther p x (by omega)⟩
end
set_option maxHeartbeats 4000000 in
set_option maxRecDepth 20000 in
theorem l6Mergers_MustMerge (f : Nat → Int) (k : Nat) (w : World) (hV : Vd f) (hk : k < 4) :
    Calls Try.prog 71 #[.agg (mk 16 f), .int .i64 (k : Int), .bool false] w fun e w' => ∃ g cap, e = .returned (.slice (some ⟨g, 0, none⟩) (ceN (mkC false f k) 16) cap) ∧
      OwnsCells w' w.heap.size (.slice (some ⟨g, 0, none⟩) (ceN (mkC false f k) 16) cap) (ceN (mkC false f k) 16) (ceL (mkC false f k) 16) ∧ Below w.heap.size w w' := by
  obtain ⟨i0, hi, hz0, hz1, hz2⟩ := info_parts infoCell
  have zl := zeroL
  have z16 := zero16
  have z8 := zero8
  have HMK : Hid (∀ i p, i < 4 → p < 4 → (decide (yeN (lnR f k i) p (lnR f k i).length = (lnR f k i).length) && isMv f k) = mkC false f k (pos k i p)) := fun i p hi hp => mk_must hV hi hp
  generalize hO : mkC false f k = O at *
  clear hO
  have K1 := Blk.new w 16 f 28
  have HB := Lib.hid ((Below.refl w.heap.size w).alloc (Nat.le_refl _) (.cells (mk 16 f) 28))
  have HV := Lib.hid hV
  have HK := Lib.hid hk
  clear hV hk
  go_enter Try.func71, Try.ntmps71
  go_upto_region 1 with (fail)
  generalize w.alloc (.cells (mk 16 f) 28) = w1 at *
  go_cut [7, 8] from 18 to 23 (fun s7 s8 wc => ∃ (b7 : Nat) (v : Nat → Value), s7 = .pointer (some ⟨b7, 0, none⟩) ∧ s8 = .bool (sameB (slideB f k) f) ∧ Blk wc w.heap.size 16 f 28 ∧ Oth wc b7 (vk 4 v) 69 ∧ LinesB wc (w.heap.size + 1) f k 4 v ∧ Below w.heap.size w wc ∧ w.heap.size < b7)
  case first =>
    refine wp_region_held_drew (S := fun W => Blk W w.heap.size 16 f 28) (by kernel_rfl) (K1.drew) (fun hHeld => ?_)
    have K1 : Blk w1.drew w.heap.size 16 f 28 := K1.drew
    have HB : Hid (Below w.heap.size w w1.drew) := HB.out.drew
    generalize w1.drew = x0 at *
    refine wpAnyH_take (i := 0) (oi := { dst := some 18, op := _, type := _, pos := _, after := _, guard := _ }) (v := .agg (mk 16 f)) rfl (by kernel_rfl) (by kernel_rfl) (by kernel_rfl) (fun _ _ _ h => h) (Or.inl ⟨by rfl, fun _ q => execB q rfl rfl⟩) (by assumption) ?_
    try simp only [Act.put, List.setIfInBounds_toArray, List.set_cons_zero, List.set_cons_succ]
    refine wpAnyH_take (i := 1) (oi := { dst := some 19, op := _, type := _, pos := _, after := _, guard := _ }) (v := .int .i64 (k : Int)) rfl (by kernel_rfl) (by kernel_rfl) (by kernel_rfl) (fun _ _ _ h => h) (Or.inl ⟨by rfl, by intro w hSw; clear hSw; go_simp; (try with_reducible rfl)⟩) (by assumption) ?_
    try simp only [Act.put, List.setIfInBounds_toArray, List.set_cons_zero, List.set_cons_succ]
    refine wpAnyH_take (i := 3) (oi := { dst := some 21, op := _, type := _, pos := _, after := _, guard := _ }) (v := .agg (mk 16 f)) rfl (by kernel_rfl) (by kernel_rfl) (by kernel_rfl) (fun _ _ _ h => h) (Or.inl ⟨by rfl, fun _ q => execB q rfl rfl⟩) (by assumption) ?_
    try simp only [Act.put, List.setIfInBounds_toArray, List.set_cons_zero, List.set_cons_succ]
    refine wpAnyH_take (i := 4) (oi := { dst := some 22, op := _, type := _, pos := _, after := _, guard := _ }) (v := .int .i64 (k : Int)) rfl (by kernel_rfl) (by kernel_rfl) (by kernel_rfl) (fun _ _ _ h => h) (Or.inl ⟨by rfl, by intro w hSw; clear hSw; go_simp; (try with_reducible rfl)⟩) (by assumption) ?_
    try simp only [Act.put, List.setIfInBounds_toArray, List.set_cons_zero, List.set_cons_succ]
    refine wpAnyH_ready (rs := [2, 6]) (by kernel_rfl) (by simp) ?_
    refine AllReadyH.cons rfl (fun K hK => ?_) ?_
    · go_simp
      refine (l6Lists_any f k _ HV.out HK.out).mono ?_
      rintro e x1 ⟨v, rfl, hl, hb⟩
      have H1 := Lib.hid (listsOne hl)
      have hsx := HB.out.size
      have HL : Hid (LinesB x1 x0.heap.size f k 4 v) := hl
      have HXS : Hid (w.heap.size < x0.heap.size) := K1.lt
      have BX : Hid (Below x1.heap.size x1 x1) := Below.refl _ _
      have K1 := K1.below hb K1.lt
      have HB : Hid (Below w.heap.size w x1) := HB.out.trans (hb.mono HB.out.size)
      clear hl hb hHeld hsx
      go_wp2_with fail
      refine hK.out _ _ K1 (fun hHeld => ?_)
      clear hK K
      try simp only [Act.put, List.setIfInBounds_toArray, List.set_cons_zero, List.set_cons_succ]
      refine wpAnyH_ready (rs := [5, 6]) (by kernel_rfl) (by simp) ?_
      refine AllReadyH.cons rfl (fun K hK => ?_) ?_
      · go_simp
        refine (l6Still_any f k _ HV.out HK.out).mono ?_
        rintro e x2 ⟨rfl, hb⟩
        have BX : Hid (Below x1.heap.size x1 x2) := BX.out.trans (hb.mono BX.out.size)
        have K1 := K1.below hb K1.lt
        have HB : Hid (Below w.heap.size w x2) := HB.out.trans (hb.mono HB.out.size)
        clear hb hHeld
        go_wp2_with fail
        refine hK.out _ _ K1 (fun hHeld => ?_)
        clear hK K
        try simp only [Act.put, List.setIfInBounds_toArray, List.set_cons_zero, List.set_cons_succ]
        refine wpAnyH_ready (rs := [6]) (by kernel_rfl) (by simp) ?_
        refine AllReadyH.cons rfl (fun K hK => ?_) AllReadyH.nil
        rw [if_pos (by rfl)]
        refine wp_allocL 7 rfl rfl ?_
        have K7 := Oth.new x2 (vk 4 fun _ => .slice none 0 0) 69
        have hxs : w.heap.size < x2.heap.size := K1.lt
        have H7W := Lib.hid hxs
        clear hxs
        have K1 := K1.alloc (.cells (vk 4 fun _ => .slice none 0 0) 69)
        have HB : Hid (Below w.heap.size w (x2.alloc (.cells (vk 4 fun _ => .slice none 0 0) 69))) := HB.out.alloc HB.out.size _
        have H7L : Hid (x1.heap.size ≤ x2.heap.size) := BX.out.size
        have BX : Hid (Below x1.heap.size x1 (x2.alloc (.cells (vk 4 fun _ => .slice none 0 0) 69))) := BX.out.alloc BX.out.size _
        clear hHeld
        generalize x2.alloc (.cells (vk 4 fun _ => .slice none 0 0) 69) = x3 at *
        generalize x2.heap.size = b7 at *
        refine hK.out _ _ K1 (fun hHeld => ?_)
        clear hK K
        try simp only [Act.put, List.setIfInBounds_toArray, List.set_cons_zero, List.set_cons_succ]
        refine wpAnyH_ready (rs := [7]) (by kernel_rfl) (by simp) ?_
        refine AllReadyH.cons rfl (fun K hK => ?_) AllReadyH.nil
        rw [if_pos (by rfl)]
        refine wp_store_vk _ _ _ rfl rfl rfl K7 sizeLL H1.out rfl ?_
        have K1 := K1.rowOther b7 (vk 4 v) (by have := H7W.out; omega)
        have HB : Hid (Below w.heap.size w (x3.setRow b7 (vk 4 v))) := below_setRow HB.out (Nat.le_of_lt H7W.out) _
        have BX : Hid (Below x1.heap.size x1 (x3.setRow b7 (vk 4 v))) := below_setRow BX.out H7L.out _
        have HL : Hid (LinesB (x3.setRow b7 (vk 4 v)) (w.heap.size + 1) f k 4 v) := (HL.out.below BX.out).wide HXS.out
        have K7 := K7.row (vk 4 v)
        clear hHeld BX
        generalize x3.setRow b7 (vk 4 v) = x4 at *
        refine hK.out _ _ K1 (fun hHeld => ?_)
        clear hK K
        try simp only [Act.put, List.setIfInBounds_toArray, List.set_cons_zero, List.set_cons_succ]
        refine wpAnyH_take (i := 8) (oi := { dst := some 8, op := _, type := _, pos := _, after := _, guard := _ }) (v := .bool (sameB (slideB f k) f)) rfl (by kernel_rfl) (by kernel_rfl) (by kernel_rfl) (fun _ _ _ h => h) (Or.inl ⟨by rfl, by intro w hSw; clear hSw; go_simp; (try with_reducible rfl)⟩) (by assumption) ?_
        try simp only [Act.put, List.setIfInBounds_toArray, List.set_cons_zero, List.set_cons_succ]
        refine wpAnyH_done (by kernel_rfl) ?_ _
        clear hHeld
        go_wp2_with fail
        go_meet
        case rel => exact ⟨b7, v, rfl, rfl, K1, K7, HL.out, HB.out, H7W.out⟩
      refine AllReadyH.cons rfl (fun K hK => ?_) AllReadyH.nil
      rw [if_pos (by rfl)]
      refine wp_allocL 7 rfl rfl ?_
      have K7 := Oth.new x1 (vk 4 fun _ => .slice none 0 0) 69
      have hxs : w.heap.size < x1.heap.size := K1.lt
      have H7W := Lib.hid hxs
      clear hxs
      have K1 := K1.alloc (.cells (vk 4 fun _ => .slice none 0 0) 69)
      have HB : Hid (Below w.heap.size w (x1.alloc (.cells (vk 4 fun _ => .slice none 0 0) 69))) := HB.out.alloc HB.out.size _
      have H7L : Hid (x1.heap.size ≤ x1.heap.size) := BX.out.size
      have BX : Hid (Below x1.heap.size x1 (x1.alloc (.cells (vk 4 fun _ => .slice none 0 0) 69))) := BX.out.alloc BX.out.size _
      clear hHeld
      generalize x1.alloc (.cells (vk 4 fun _ => .slice none 0 0) 69) = x2 at *
      obtain ⟨b7, hb7⟩ : ∃ b, b = x1.heap.size := ⟨_, rfl⟩
      rw [← hb7] at K7 H7W ⊢
      have H7L : Hid (x1.heap.size ≤ b7) := by show _ ≤ _; omega
      clear hb7
      refine hK.out _ _ K1 (fun hHeld => ?_)
      clear hK K
      try simp only [Act.put, List.setIfInBounds_toArray, List.set_cons_zero, List.set_cons_succ]
      refine wpAnyH_ready (rs := [5]) (by kernel_rfl) (by simp) ?_
      refine AllReadyH.cons rfl (fun K hK => ?_) AllReadyH.nil
      go_simp
      refine (l6Still_any f k _ HV.out HK.out).mono ?_
      rintro e x3 ⟨rfl, hb⟩
      have BX : Hid (Below x1.heap.size x1 x3) := BX.out.trans (hb.mono BX.out.size)
      have K1 := K1.below hb K1.lt
      have HB : Hid (Below w.heap.size w x3) := HB.out.trans (hb.mono HB.out.size)
      have K7 := K7.below hb K7.lt
      clear hb hHeld
      go_wp2_with fail
      refine hK.out _ _ K1 (fun hHeld => ?_)
      clear hK K
      try simp only [Act.put, List.setIfInBounds_toArray, List.set_cons_zero, List.set_cons_succ]
      refine wpAnyH_ready (rs := [7]) (by kernel_rfl) (by simp) ?_
      refine AllReadyH.cons rfl (fun K hK => ?_) AllReadyH.nil
      rw [if_pos (by rfl)]
      refine wp_store_vk _ _ _ rfl rfl rfl K7 sizeLL H1.out rfl ?_
      have K1 := K1.rowOther b7 (vk 4 v) (by have := H7W.out; omega)
      have HB : Hid (Below w.heap.size w (x3.setRow b7 (vk 4 v))) := below_setRow HB.out (Nat.le_of_lt H7W.out) _
      have BX : Hid (Below x1.heap.size x1 (x3.setRow b7 (vk 4 v))) := below_setRow BX.out H7L.out _
      have HL : Hid (LinesB (x3.setRow b7 (vk 4 v)) (w.heap.size + 1) f k 4 v) := (HL.out.below BX.out).wide HXS.out
      have K7 := K7.row (vk 4 v)
      clear hHeld BX
      generalize x3.setRow b7 (vk 4 v) = x4 at *
      refine hK.out _ _ K1 (fun hHeld => ?_)
      clear hK K
      try simp only [Act.put, List.setIfInBounds_toArray, List.set_cons_zero, List.set_cons_succ]
      refine wpAnyH_take (i := 8) (oi := { dst := some 8, op := _, type := _, pos := _, after := _, guard := _ }) (v := .bool (sameB (slideB f k) f)) rfl (by kernel_rfl) (by kernel_rfl) (by kernel_rfl) (fun _ _ _ h => h) (Or.inl ⟨by rfl, by intro w hSw; clear hSw; go_simp; (try with_reducible rfl)⟩) (by assumption) ?_
      try simp only [Act.put, List.setIfInBounds_toArray, List.set_cons_zero, List.set_cons_succ]
      refine wpAnyH_done (by kernel_rfl) ?_ _
      clear hHeld
      go_wp2_with fail
      go_meet
      case rel => exact ⟨b7, v, rfl, rfl, K1, K7, HL.out, HB.out, H7W.out⟩
    refine AllReadyH.cons rfl (fun K hK => ?_) AllReadyH.nil
    rw [if_pos (by rfl)]
    refine wp_allocL 7 rfl rfl ?_
    have K7 := Oth.new x0 (vk 4 fun _ => .slice none 0 0) 69
    have hxs : w.heap.size < x0.heap.size := K1.lt
    have H7W := Lib.hid hxs
    clear hxs
    have K1 := K1.alloc (.cells (vk 4 fun _ => .slice none 0 0) 69)
    have HB : Hid (Below w.heap.size w (x0.alloc (.cells (vk 4 fun _ => .slice none 0 0) 69))) := HB.out.alloc HB.out.size _
    have H7N : Hid (x0.heap.size < (x0.alloc (.cells (vk 4 fun _ => .slice none 0 0) 69)).heap.size) := by show _ < _; simp
    clear hHeld
    generalize x0.alloc (.cells (vk 4 fun _ => .slice none 0 0) 69) = x1 at *
    generalize x0.heap.size = b7 at *
    refine hK.out _ _ K1 (fun hHeld => ?_)
    clear hK K
    try simp only [Act.put, List.setIfInBounds_toArray, List.set_cons_zero, List.set_cons_succ]
    refine wpAnyH_ready (rs := [2]) (by kernel_rfl) (by simp) ?_
    refine AllReadyH.cons rfl (fun K hK => ?_) AllReadyH.nil
    go_simp
    refine (l6Lists_any f k _ HV.out HK.out).mono ?_
    rintro e x2 ⟨v, rfl, hl, hb⟩
    have H1 := Lib.hid (listsOne hl)
    have hsx := HB.out.size
    have HL : Hid (LinesB x2 x1.heap.size f k 4 v) := hl
    have HXS : Hid (w.heap.size < x1.heap.size) := K1.lt
    have BX : Hid (Below x2.heap.size x2 x2) := Below.refl _ _
    have K1 := K1.below hb K1.lt
    have HB : Hid (Below w.heap.size w x2) := HB.out.trans (hb.mono HB.out.size)
    have K7 := K7.below hb K7.lt
    clear hl hb hHeld hsx
    go_wp2_with fail
    refine hK.out _ _ K1 (fun hHeld => ?_)
    clear hK K
    try simp only [Act.put, List.setIfInBounds_toArray, List.set_cons_zero, List.set_cons_succ]
    refine wpAnyH_ready (rs := [5]) (by kernel_rfl) (by simp) ?_
    refine AllReadyH.cons rfl (fun K hK => ?_) AllReadyH.nil
    go_simp
    refine (l6Still_any f k _ HV.out HK.out).mono ?_
    rintro e x3 ⟨rfl, hb⟩
    have BX : Hid (Below x2.heap.size x2 x3) := BX.out.trans (hb.mono BX.out.size)
    have K1 := K1.below hb K1.lt
    have HB : Hid (Below w.heap.size w x3) := HB.out.trans (hb.mono HB.out.size)
    have K7 := K7.below hb K7.lt
    clear hb hHeld
    go_wp2_with fail
    refine hK.out _ _ K1 (fun hHeld => ?_)
    clear hK K
    try simp only [Act.put, List.setIfInBounds_toArray, List.set_cons_zero, List.set_cons_succ]
    refine wpAnyH_ready (rs := [7]) (by kernel_rfl) (by simp) ?_
    refine AllReadyH.cons rfl (fun K hK => ?_) AllReadyH.nil
    rw [if_pos (by rfl)]
    refine wp_store_vk _ _ _ rfl rfl rfl K7 sizeLL H1.out rfl ?_
    have K1 := K1.rowOther b7 (vk 4 v) (by have := H7W.out; omega)
    have HB : Hid (Below w.heap.size w (x3.setRow b7 (vk 4 v))) := below_setRow HB.out (Nat.le_of_lt H7W.out) _
    have HL : Hid (LinesB (x3.setRow b7 (vk 4 v)) (w.heap.size + 1) f k 4 v) := ((HL.out.below BX.out).rowOther b7 _ H7N.out).wide HXS.out
    have K7 := K7.row (vk 4 v)
    clear hHeld BX
    generalize x3.setRow b7 (vk 4 v) = x4 at *
    refine hK.out _ _ K1 (fun hHeld => ?_)
    clear hK K
    try simp only [Act.put, List.setIfInBounds_toArray, List.set_cons_zero, List.set_cons_succ]
    refine wpAnyH_take (i := 8) (oi := { dst := some 8, op := _, type := _, pos := _, after := _, guard := _ }) (v := .bool (sameB (slideB f k) f)) rfl (by kernel_rfl) (by kernel_rfl) (by kernel_rfl) (fun _ _ _ h => h) (Or.inl ⟨by rfl, by intro w hSw; clear hSw; go_simp; (try with_reducible rfl)⟩) (by assumption) ?_
    try simp only [Act.put, List.setIfInBounds_toArray, List.set_cons_zero, List.set_cons_succ]
    refine wpAnyH_done (by kernel_rfl) ?_ _
    clear hHeld
    go_wp2_with fail
    go_meet
    case rel => exact ⟨b7, v, rfl, rfl, K1, K7, HL.out, HB.out, H7W.out⟩
  case rest =>
    clear K1 HB zl
    obtain ⟨b7, v, rfl, rfl, K1, K7, hl, hb, hb7⟩ := hcut
    have H7 := Lib.hid hb7
    obtain ⟨ST, hST⟩ : ∃ b, b = sameB (slideB f k) f := ⟨_, rfl⟩
    rw [← hST]
    have HST : Hid ((!ST) = isMv f k) := by show _ = _; rw [hST, isMv_not, Bool.not_not]
    clear hST
    have HL := Lib.hid ((hl.toT).alloc (.cells (mk 16 fun _ => 0) 23))
    have hsz : w.heap.size ≤ wc.heap.size := hb.size
    have hkw := K1.lt
    have h7w := K7.lt
    have K1 := K1.alloc (.cells (mk 16 fun _ => 0) 23)
    have K7 := K7.alloc (.cells (mk 16 fun _ => 0) 23)
    have K9 := Blk.new wc 16 (fun _ => 0) 23
    have HB : Hid (Below w.heap.size w (wc.alloc (.cells (mk 16 fun _ => 0) 23))) := hb.alloc hsz _
    clear hl hb hb7
    go_wp2_with fail
    generalize wc.alloc (.cells (mk 16 fun _ => 0) 23) = w2 at *
    generalize wc.heap.size = b9 at *
    go_loopg [10] 4 (fun gk s10 wr => ∃ i : Nat, i + gk = 4 ∧ s10 = .int .i64 i ∧ Blk wr w.heap.size 16 f 28 ∧ Oth wr b7 (vk 4 v) 69 ∧ Blk wr b9 16 (mkU O k i 0) 23 ∧ Hid (LinesT wr b9 f k 4 v) ∧ Hid (Below w.heap.size w wr))
    case atStart => exact ⟨0, by omega, rfl, K1, K7, K9.congr fun j _ => (mkU_zero O k j).symm, HL, HB⟩
    case round =>
      clear K1 K7 K9 HL HB
      obtain ⟨i, hig, rfl, K1, K7, K9, HL, HB⟩ := hrel
      cases gk with
      | zero =>
        have hi9 : ¬ ((i : Int) < 4) := by omega
        obtain rfl : i = 4 := by omega
        have K9 := K9.congr (g := fun j => if O j then 1 else 0) fun j hj => mkU_all O hj
        have hs9 := HB.out.size
        have HO : OwnsCells (wr.alloc (.cells #[] 63)) (w.heap.size + 1) (.slice (some ⟨wr.heap.size, 0, none⟩) 0 0) 0 [] :=
          World.ownsRow_made (base := w.heap.size + 1) (e := 63) (size := 2) wr #[] 0 (by have := K1.lt; omega) (by decide) rfl
        have K9 := K9.alloc (.cells #[] 63)
        have HB : Hid (Below w.heap.size w (wr.alloc (.cells #[] 63))) := HB.out.alloc HB.out.size _
        clear K1 K7 HL
        go_wp2_with fail
        generalize wr.alloc (.cells #[] 63) = w5 at *
        go_loopg [15, 16] 4 (fun g s15 s16 wr => ∃ (r : Nat) (u : Value), r + g = 4 ∧ s16 = .int .i64 r ∧ u = s15 ∧ (∃ gg cap, u = .slice (some ⟨gg, 0, none⟩) (ceN O (r * 4)) cap) ∧ OwnsCells wr (w.heap.size + 1) u (ceN O (r * 4)) (ceL O (r * 4)) ∧ Blk wr b9 16 (fun j => if O j then 1 else 0) 23 ∧ b9 < w5.heap.size ∧ Hid (Below w.heap.size w wr))
        case atStart => exact ⟨0, _, by omega, rfl, rfl, ⟨_, _, rfl⟩, HO, K9, K9.lt, HB⟩
        case round =>
          clear K9 HB HO
          obtain ⟨r, u, hrg, rfl, rfl, hv, ho, K9, h95, hb⟩ := hrel
          cases gk with
          | zero =>
            have hr : ¬ ((r : Int) < 4) := by omega
            obtain rfl : r = 4 := by omega
            obtain ⟨gg, cap, rfl⟩ := hv
            go_wp2_with fail
            go_ret
            exact ⟨gg, cap, rfl, ownsRow_wide ho (by omega), hb.out⟩
          | succ g =>
            have hr4 : (r : Int) < 4 := by omega
            have hr5 : r < 4 := by omega
            go_wp2_with fail
            go_loopg [15, 17] 4 (fun h s15 s17 wx => ∃ (c : Nat) (u : Value), c + h = 4 ∧ s17 = .int .i64 c ∧ u = s15 ∧ (∃ gg cap, u = .slice (some ⟨gg, 0, none⟩) (ceN O (r * 4 + c)) cap) ∧ OwnsCells wx (w.heap.size + 1) u (ceN O (r * 4 + c)) (ceL O (r * 4 + c)) ∧ Blk wx b9 16 (fun j => if O j then 1 else 0) 23 ∧ Hid (Below w.heap.size w wx))
            case atStart => exact ⟨0, _, by omega, rfl, rfl, hv, ho, K9, hb⟩
            case round =>
              clear hv ho K9 hb
              obtain ⟨c, u, hch, rfl, rfl, hv, ho, K9, hb⟩ := hrel
              cases gk with
              | zero =>
                have hc : ¬ ((c : Int) < 4) := by omega
                have HC : Hid (r * 4 + c = (r + 1) * 4) := by show _ = _; omega
                go_wp2_with fail
                go_roundg g
                case rel => exact ⟨r + 1, _, by omega, by go_num, rfl, by rw [HC.out] at hv; exact hv, by rw [HC.out] at ho; exact ho, K9, h95, hb⟩
                case measure => omega
              | succ q9 =>
                have hc : (c : Int) < 4 := by omega
                have hc5 : c < 4 := by omega
                have hn := ceN_le O (r * 4 + c)
                have hn16 : ceN O (r * 4 + c) ≤ 16 := by omega
                have HQ : Hid ((r * 4 + c) / 4 = r ∧ (r * 4 + c) % 4 = c) := by show _ ∧ _; omega
                have c1 := K9.cell (i := r * 4 + c) (by omega)
                have ho0 : wr.ownsRow (w.heap.size + 1) 63 2 u (ceN O (r * 4 + c)) ((ceL O (r * 4 + c)).map (Value.int .i64)) := ho
                have hsz := hb.out.size
                have hlt := K9.lt
                clear ho
                cases ha : O (r * 4 + c) with
                | true =>
                  obtain ⟨y1, y2⟩ := ce_yes ha
                  have Y1 := Lib.hid y1
                  have Y2 := Lib.hid y2
                  rw [ha] at c1
                  simp only [if_true] at c1
                  clear y1 y2 ha
                  go_wp2_with (at_builtin; refine wpList_append_own _ rfl _ _ 42 rfl (w.heap.size + 1) 63 i0 (.agg #[.int .i64 0, .int .i64 0]) 2 16 Try.underlying42 hi hz0 hz1 hz2 rfl (by decide) _ _ _ rfl (ho0.alloc _) ⟨wr.heap.size, 0, none⟩ 1 1 [.int .i64 r, .int .i64 c] rfl rfl ?c1 ?c2 ?c3 ?c4 ?c5 ?_)
                  case c1 => exact cell_two_new _ _ _ _
                  case c2 => simp [Value.oneCell']
                  case c3 => unfold maxLen; omega
                  case c4 => omega
                  case c5 => simp; omega
                  intro v' w6 hown' hgrow' _
                  obtain ⟨gg, cap, hv'⟩ := ownsRow_succ hown'
                  have HV' : Hid (∃ gg cap, v' = .slice (some ⟨gg, 0, none⟩) (ceN O (r * 4 + c) + 1) cap) := ⟨gg, cap, hv'⟩
                  have HB2 : Hid (Below w.heap.size w w6) := ((hb.out).alloc hsz _).grown hgrow' (by simp; omega) (fun j hj => by have := (ho0.lt j hj).1; omega)
                  have K9 := (K9.alloc (.cells #[.int .i64 r, .int .i64 c] 63)).grown hgrow' (fun e => own_ne_blk ho0 K9 (by decide) e.symm)
                  have HO : Hid (OwnsCells w6 (w.heap.size + 1) v' (ceN O (r * 4 + c) + 1) (ceL O (r * 4 + c) ++ [(r : Int), (c : Int)])) := by
                    show OwnsCells _ _ _ _ _
                    unfold OwnsCells
                    rw [List.map_append]
                    exact hown'
                  clear hown' hgrow' ho0 hv'
                  go_wp2_with fail
                  go_roundg q9
                  case rel => exact ⟨c + 1, _, by omega, by go_num, rfl, by rw [show r * 4 + (c + 1) = r * 4 + c + 1 by omega, Y2.out]; exact HV'.out, by rw [show r * 4 + (c + 1) = r * 4 + c + 1 by omega, Y1.out, Y2.out, HQ.out.1, HQ.out.2]; exact HO.out, K9, HB2⟩
                  case measure => omega
                | false =>
                  obtain ⟨y1, y2⟩ := ce_no ha
                  have Y1 := Lib.hid y1
                  have Y2 := Lib.hid y2
                  rw [ha] at c1
                  simp only [Bool.false_eq_true, if_false] at c1
                  clear y1 y2 ha
                  go_wp2_with fail
                  go_roundg q9
                  case rel => exact ⟨c + 1, _, by omega, by go_num, rfl, by rw [show r * 4 + (c + 1) = r * 4 + c + 1 by omega, Y2.out]; exact hv, by rw [show r * 4 + (c + 1) = r * 4 + c + 1 by omega, Y1.out, Y2.out]; exact ho0, K9, hb⟩
                  case measure => omega
      | succ g =>
        have hi4 : (i : Int) < 4 := by omega
        have hi0 : (0 : Int) ≤ (i : Int) := by omega
        have hi9 : i < 4 := by omega
        have hs9 := HB.out.size
        have h9 := K9.lt
        go_wp2_with fail
        refine (l2Line_nat k i _ HK.out hi9).mono ?_
        rintro e w3 ⟨rfl, hb⟩
        have hs3 := hb.size
        have K1 := (K1.below hb K1.lt).alloc (.cells (mk 8 (lineV k i)) 110)
        have K7 := (K7.below hb K7.lt).alloc (.cells (mk 8 (lineV k i)) 110)
        have K9 := (K9.below hb K9.lt).alloc (.cells (mk 8 (lineV k i)) 110)
        have HL : Hid (LinesT (w3.alloc (.cells (mk 8 (lineV k i)) 110)) b9 f k 4 v) := (HL.out.below hb).alloc _
        have K11 := Blk.new w3 8 (lineV k i) 110
        have HB : Hid (Below w.heap.size w w3) := HB.out.trans (hb.mono HB.out.size)
        have HB : Hid (Below w.heap.size w (w3.alloc (.cells (mk 8 (lineV k i)) 110))) := HB.out.alloc HB.out.size _
        clear hb
        go_wp2_with fail
        generalize w3.alloc (.cells (mk 8 (lineV k i)) 110) = w4 at *
        have h911 : b9 < w3.heap.size := by omega
        generalize w3.heap.size = b11 at *
        go_loopg [12] 4 (fun gp s12 wx => ∃ p : Nat, p + gp = 4 ∧ s12 = .int .i64 p ∧ Blk wx w.heap.size 16 f 28 ∧ Oth wx b7 (vk 4 v) 69 ∧ Blk wx b9 16 (mkU O k i p) 23 ∧ Blk wx b11 8 (lineV k i) 110 ∧ Hid (LinesT wx b9 f k 4 v) ∧ Hid (Below w.heap.size w wx))
        case atStart => exact ⟨0, by omega, rfl, K1, K7, K9, K11, HL, HB⟩
        case round =>
          clear K1 K7 K9 K11 HL HB
          obtain ⟨p, hpg, rfl, K1, K7, K9, K11, HL, HB⟩ := hrel
          cases gk with
          | zero =>
            have hp : ¬ ((p : Int) < 4) := by omega
            obtain rfl : p = 4 := by omega
            have K9 := K9.congr fun j hj => mkU_line O k i hj
            go_wp2_with fail
            go_roundg g
            case rel => exact ⟨i + 1, by omega, by go_num, K1, K7, K9, HL, HB⟩
            case measure => omega
          | succ q9 =>
            have hp4 : (p : Int) < 4 := by omega
            have hp0 : (0 : Int) ≤ (p : Int) := by omega
            have hp9 : p < 4 := by omega
            have HMP := Lib.hid (HMK.out i p hi9 hp9)
            obtain ⟨g0, c0, hv, _, hCX⟩ := HL.out i hi9
            have HVI := Lib.hid hv
            have hn15 := lnR_15 f k i
            have HYF := Lib.hid (fun n (hn : n < (lnR f k i).length) => ye_flat (p := p) hn)
            have HYL := Lib.hid (fun n => ye_le (lnR f k i) p n)
            clear hv
            generalize hR : lnR f k i = R at *
            generalize hN : R.length = n at *
            generalize hH : flatF R = h at *
            go_wp2_with fail
            go_loopg [13, 14] n (fun gj s13 s14 wy => ∃ j : Nat, j + gj = n ∧ s14 = .int .i64 j ∧ s13 = .int .i64 (yeN R p j : Nat) ∧ CAt wy g0 (n * 4) h ∧ Blk wy w.heap.size 16 f 28 ∧ Oth wy b7 (vk 4 v) 69 ∧ Blk wy b9 16 (mkU O k i p) 23 ∧ Blk wy b11 8 (lineV k i) 110 ∧ Hid (LinesT wy b9 f k 4 v) ∧ Hid (Below w.heap.size w wy))
            case atStart => exact ⟨0, by omega, rfl, rfl, hCX, K1, K7, K9, K11, HL, HB⟩
            case round =>
              clear hCX K1 K7 K9 K11 HL HB
              obtain ⟨j, hjg, rfl, rfl, hCX, K1, K7, K9, K11, HL, HB⟩ := hrel
              have c5 := K7.get (i := i) hi9
              rw [HVI.out] at c5
              have hyl := HYL.out j
              cases gk with
              | zero =>
                have hj : ¬ ((j : Int) < (n : Int)) := by omega
                obtain rfl : j = n := by omega
                have h7 := H7.out
                by_cases he : yeN R p j = j
                · have HX : Hid (isMv f k = O (pos k i p)) := by show _ = _; rw [← HMP.out, decide_eq_true he, Bool.true_and]
                  rw [he]
                  clear HMP HYF he
                  cases ST with
                  | false =>
                    have HO : Hid (O (pos k i p) = true) := HX.out.symm.trans HST.out.symm
                    clear HX
                    have hq16 := pos_lt (d := k) hi9 hp9
                    have e0 := K11.cell (i := p * 2) (by omega)
                    have e1 := K11.cell (i := p * 2 + 1) (by omega)
                    rw [lineV_row] at e0
                    rw [lineV_col] at e1
                    have hr4 : ((pos k i p / 4 : Nat) : Int) < 4 := by omega
                    have hr0 : (0 : Int) ≤ ((pos k i p / 4 : Nat) : Int) := by omega
                    have hc4 : ((pos k i p % 4 : Nat) : Int) < 4 := by omega
                    have hc0 : (0 : Int) ≤ ((pos k i p % 4 : Nat) : Int) := by omega
                    have HQ : Hid (pos k i p / 4 * 4 + pos k i p % 4 = pos k i p) := by show _ = _; omega
                    have c9 := K9.cell (i := pos k i p / 4 * 4 + pos k i p % 4) (by omega)
                    have f9 := K9.free (pos k i p / 4 * 4 + pos k i p % 4)
                    have hU : ∀ j, j < 16 → upd (mkU O k i p) (pos k i p) 1 j = mkU O k i (p + 1) j := fun j hj => mkU_yes hi9 hp9 HO.out hj
                    have HU := Lib.hid hU
                    have HS := K9.set (i := pos k i p / 4 * 4 + pos k i p % 4) (by omega) 1
                    rw [HQ.out] at HS
                    have HSS := Lib.hid (HS.congr hU)
                    have HK1 := Lib.hid (K1.setOther ⟨b9, pos k i p / 4 * 4 + pos k i p % 4, none⟩ (.int .i64 1) (by dsimp only; omega))
                    have HK7 := Lib.hid (K7.setOther ⟨b9, pos k i p / 4 * 4 + pos k i p % 4, none⟩ (.int .i64 1) (by dsimp only; omega))
                    have HK11 := Lib.hid (K11.setOther ⟨b9, pos k i p / 4 * 4 + pos k i p % 4, none⟩ (.int .i64 1) (by dsimp only; omega))
                    have HLS := Lib.hid (HL.out.setOther ⟨b9, pos k i p / 4 * 4 + pos k i p % 4, none⟩ (.int .i64 1) (Nat.le_refl _))
                    have HBS := Lib.hid (HB.out.setCell (p := ⟨b9, pos k i p / 4 * 4 + pos k i p % 4, none⟩) (by dsimp only; omega) (.int .i64 1))
                    rw [← HQ.out] at HSS
                    clear hU HS
                    generalize pos k i p / 4 = r at *
                    generalize pos k i p % 4 = c at *
                    go_wp2_with fail
                    go_region
                    all_goals
                      go_wp2_with fail
                      go_roundg q9
                      case rel => exact ⟨p + 1, by omega, by go_num, HK1.out, HK7.out, HSS.out, HK11.out, HLS, HBS.out.drew⟩
                      case measure => omega
                  | true =>
                    have HO : Hid (O (pos k i p) = false) := HX.out.symm.trans HST.out.symm
                    clear HX
                    have HU := Lib.hid (fun j (hj : j < 16) => mkU_no (d := k) (i := i) (p := p) HO.out hj)
                    go_wp2_with fail
                    go_roundg q9
                    case rel => exact ⟨p + 1, by omega, by go_num, K1, K7, K9.congr HU.out, K11, HL, HB⟩
                    case measure => omega
                · have HO : Hid (O (pos k i p) = false) := by show _ = _; rw [← HMP.out, decide_eq_false he, Bool.false_and]
                  have hne : ((yeN R p j : Nat) : Int) ≠ (j : Int) := by omega
                  have q1 : (((yeN R p j : Nat) : Int) == (j : Int)) = false := by simpa using hne
                  clear HMP HYF he hne
                  generalize yeN R p j = y at *
                  have HU := Lib.hid (fun j (hj : j < 16) => mkU_no (d := k) (i := i) (p := p) HO.out hj)
                  go_wp2_with fail
                  go_roundg q9
                  case rel => exact ⟨p + 1, by omega, by go_num, K1, K7, K9.congr HU.out, K11, HL, HB⟩
                  case measure => omega
              | succ gj =>
                have hj : (j : Int) < (n : Int) := by omega
                have hj0 : (0 : Int) ≤ (j : Int) := by omega
                have HS := Lib.hid (HYF.out j (by omega))
                go_wp2_with ((with_reducible show wpList _ _ _ (Oper.mk _ (Op.load 22 _) _ _ _ _ :: _) _ _); refine loadAR (hCX) (by omega) rfl rfl rfl ?_)
                refine (l6Merged_any _ _).mono ?_
                rintro e w6 ⟨rfl, hb⟩
                have hCX := hCX.below hb
                have K1 := K1.below hb K1.lt
                have K7 := K7.below hb K7.lt
                have K9 := K9.below hb K9.lt
                have K11 := K11.below hb K11.lt
                have HL : Hid (LinesT w6 b9 f k 4 v) := HL.out.below hb
                have HB : Hid (Below w.heap.size w w6) := HB.out.trans (hb.mono HB.out.size)
                clear hb
                have iT := fun W => idxT (mgB fun c => h (j * 4 + c)) p hp9 W
                generalize mgB (fun c => h (j * 4 + c)) = bb at *
                cases hbb : bb p with
                | true =>
                  have HS : Hid (yeN R p (j + 1) = yeN R p j + 1) := by show _ = _; rw [HS.out, hbb]; rfl
                  rw [hbb] at iT
                  clear hbb
                  go_wp2_with fail
                  go_roundg gj
                  case rel => exact ⟨j + 1, by omega, by go_num, by rw [HS.out]; go_num, hCX, K1, K7, K9, K11, HL, HB⟩
                  case measure => omega
                | false =>
                  have HS : Hid (yeN R p (j + 1) = yeN R p j) := by show _ = _; rw [HS.out, hbb]; rfl
                  rw [hbb] at iT
                  clear hbb
                  go_wp2_with fail
                  go_roundg gj
                  case rel => exact ⟨j + 1, by omega, by go_num, by rw [HS.out], hCX, K1, K7, K9, K11, HL, HB⟩
                  case measure => omega
set_option maxHeartbeats 4000000 in
set_option maxRecDepth 20000 in
theorem l6Mergers_CanMerge (f : Nat → Int) (k : Nat) (w : World) (hV : Vd f) (hk : k < 4) :
    Calls Try.prog 71 #[.agg (mk 16 f), .int .i64 (k : Int), .bool true] w fun e w' => ∃ g cap, e = .returned (.slice (some ⟨g, 0, none⟩) (ceN (mkC true f k) 16) cap) ∧
      OwnsCells w' w.heap.size (.slice (some ⟨g, 0, none⟩) (ceN (mkC true f k) 16) cap) (ceN (mkC true f k) 16) (ceL (mkC true f k) 16) ∧ Below w.heap.size w w' := by
  obtain ⟨i0, hi, hz0, hz1, hz2⟩ := info_parts infoCell
  have zl := zeroL
  have z16 := zero16
  have z8 := zero8
  have HMK : Hid (∀ i p, i < 4 → p < 4 → decide (0 < yeN (lnR f k i) p (lnR f k i).length) = mkC true f k (pos k i p)) := fun i p hi hp => mk_can f k hi hp
  generalize hO : mkC true f k = O at *
  clear hO
  have K1 := Blk.new w 16 f 28
  have HB := Lib.hid ((Below.refl w.heap.size w).alloc (Nat.le_refl _) (.cells (mk 16 f) 28))
  have HV := Lib.hid hV
  have HK := Lib.hid hk
  clear hV hk
  go_enter Try.func71, Try.ntmps71
  go_upto_region 1 with (fail)
  generalize w.alloc (.cells (mk 16 f) 28) = w1 at *
  go_cut [7, 8] from 18 to 23 (fun s7 s8 wc => ∃ (b7 : Nat) (v : Nat → Value), s7 = .pointer (some ⟨b7, 0, none⟩) ∧ s8 = .bool (sameB (slideB f k) f) ∧ Blk wc w.heap.size 16 f 28 ∧ Oth wc b7 (vk 4 v) 69 ∧ LinesB wc (w.heap.size + 1) f k 4 v ∧ Below w.heap.size w wc ∧ w.heap.size < b7)
  case first =>
    refine wp_region_held_drew (S := fun W => Blk W w.heap.size 16 f 28) (by kernel_rfl) (K1.drew) (fun hHeld => ?_)
    have K1 : Blk w1.drew w.heap.size 16 f 28 := K1.drew
    have HB : Hid (Below w.heap.size w w1.drew) := HB.out.drew
    generalize w1.drew = x0 at *
    refine wpAnyH_take (i := 0) (oi := { dst := some 18, op := _, type := _, pos := _, after := _, guard := _ }) (v := .agg (mk 16 f)) rfl (by kernel_rfl) (by kernel_rfl) (by kernel_rfl) (fun _ _ _ h => h) (Or.inl ⟨by rfl, fun _ q => execB q rfl rfl⟩) (by assumption) ?_
    try simp only [Act.put, List.setIfInBounds_toArray, List.set_cons_zero, List.set_cons_succ]
    refine wpAnyH_take (i := 1) (oi := { dst := some 19, op := _, type := _, pos := _, after := _, guard := _ }) (v := .int .i64 (k : Int)) rfl (by kernel_rfl) (by kernel_rfl) (by kernel_rfl) (fun _ _ _ h => h) (Or.inl ⟨by rfl, by intro w hSw; clear hSw; go_simp; (try with_reducible rfl)⟩) (by assumption) ?_
    try simp only [Act.put, List.setIfInBounds_toArray, List.set_cons_zero, List.set_cons_succ]
    refine wpAnyH_take (i := 3) (oi := { dst := some 21, op := _, type := _, pos := _, after := _, guard := _ }) (v := .agg (mk 16 f)) rfl (by kernel_rfl) (by kernel_rfl) (by kernel_rfl) (fun _ _ _ h => h) (Or.inl ⟨by rfl, fun _ q => execB q rfl rfl⟩) (by assumption) ?_
    try simp only [Act.put, List.setIfInBounds_toArray, List.set_cons_zero, List.set_cons_succ]
    refine wpAnyH_take (i := 4) (oi := { dst := some 22, op := _, type := _, pos := _, after := _, guard := _ }) (v := .int .i64 (k : Int)) rfl (by kernel_rfl) (by kernel_rfl) (by kernel_rfl) (fun _ _ _ h => h) (Or.inl ⟨by rfl, by intro w hSw; clear hSw; go_simp; (try with_reducible rfl)⟩) (by assumption) ?_
    try simp only [Act.put, List.setIfInBounds_toArray, List.set_cons_zero, List.set_cons_succ]
    refine wpAnyH_ready (rs := [2, 6]) (by kernel_rfl) (by simp) ?_
    refine AllReadyH.cons rfl (fun K hK => ?_) ?_
    · go_simp
      refine (l6Lists_any f k _ HV.out HK.out).mono ?_
      rintro e x1 ⟨v, rfl, hl, hb⟩
      have H1 := Lib.hid (listsOne hl)
      have hsx := HB.out.size
      have HL : Hid (LinesB x1 x0.heap.size f k 4 v) := hl
      have HXS : Hid (w.heap.size < x0.heap.size) := K1.lt
      have BX : Hid (Below x1.heap.size x1 x1) := Below.refl _ _
      have K1 := K1.below hb K1.lt
      have HB : Hid (Below w.heap.size w x1) := HB.out.trans (hb.mono HB.out.size)
      clear hl hb hHeld hsx
      go_wp2_with fail
      refine hK.out _ _ K1 (fun hHeld => ?_)
      clear hK K
      try simp only [Act.put, List.setIfInBounds_toArray, List.set_cons_zero, List.set_cons_succ]
      refine wpAnyH_ready (rs := [5, 6]) (by kernel_rfl) (by simp) ?_
      refine AllReadyH.cons rfl (fun K hK => ?_) ?_
      · go_simp
        refine (l6Still_any f k _ HV.out HK.out).mono ?_
        rintro e x2 ⟨rfl, hb⟩
        have BX : Hid (Below x1.heap.size x1 x2) := BX.out.trans (hb.mono BX.out.size)
        have K1 := K1.below hb K1.lt
        have HB : Hid (Below w.heap.size w x2) := HB.out.trans (hb.mono HB.out.size)
        clear hb hHeld
        go_wp2_with fail
        refine hK.out _ _ K1 (fun hHeld => ?_)
        clear hK K
        try simp only [Act.put, List.setIfInBounds_toArray, List.set_cons_zero, List.set_cons_succ]
        refine wpAnyH_ready (rs := [6]) (by kernel_rfl) (by simp) ?_
        refine AllReadyH.cons rfl (fun K hK => ?_) AllReadyH.nil
        rw [if_pos (by rfl)]
        refine wp_allocL 7 rfl rfl ?_
        have K7 := Oth.new x2 (vk 4 fun _ => .slice none 0 0) 69
        have hxs : w.heap.size < x2.heap.size := K1.lt
        have H7W := Lib.hid hxs
        clear hxs
        have K1 := K1.alloc (.cells (vk 4 fun _ => .slice none 0 0) 69)
        have HB : Hid (Below w.heap.size w (x2.alloc (.cells (vk 4 fun _ => .slice none 0 0) 69))) := HB.out.alloc HB.out.size _
        have H7L : Hid (x1.heap.size ≤ x2.heap.size) := BX.out.size
        have BX : Hid (Below x1.heap.size x1 (x2.alloc (.cells (vk 4 fun _ => .slice none 0 0) 69))) := BX.out.alloc BX.out.size _
        clear hHeld
        generalize x2.alloc (.cells (vk 4 fun _ => .slice none 0 0) 69) = x3 at *
        generalize x2.heap.size = b7 at *
        refine hK.out _ _ K1 (fun hHeld => ?_)
        clear hK K
        try simp only [Act.put, List.setIfInBounds_toArray, List.set_cons_zero, List.set_cons_succ]
        refine wpAnyH_ready (rs := [7]) (by kernel_rfl) (by simp) ?_
        refine AllReadyH.cons rfl (fun K hK => ?_) AllReadyH.nil
        rw [if_pos (by rfl)]
        refine wp_store_vk _ _ _ rfl rfl rfl K7 sizeLL H1.out rfl ?_
        have K1 := K1.rowOther b7 (vk 4 v) (by have := H7W.out; omega)
        have HB : Hid (Below w.heap.size w (x3.setRow b7 (vk 4 v))) := below_setRow HB.out (Nat.le_of_lt H7W.out) _
        have BX : Hid (Below x1.heap.size x1 (x3.setRow b7 (vk 4 v))) := below_setRow BX.out H7L.out _
        have HL : Hid (LinesB (x3.setRow b7 (vk 4 v)) (w.heap.size + 1) f k 4 v) := (HL.out.below BX.out).wide HXS.out
        have K7 := K7.row (vk 4 v)
        clear hHeld BX
        generalize x3.setRow b7 (vk 4 v) = x4 at *
        refine hK.out _ _ K1 (fun hHeld => ?_)
        clear hK K
        try simp only [Act.put, List.setIfInBounds_toArray, List.set_cons_zero, List.set_cons_succ]
        refine wpAnyH_take (i := 8) (oi := { dst := some 8, op := _, type := _, pos := _, after := _, guard := _ }) (v := .bool (sameB (slideB f k) f)) rfl (by kernel_rfl) (by kernel_rfl) (by kernel_rfl) (fun _ _ _ h => h) (Or.inl ⟨by rfl, by intro w hSw; clear hSw; go_simp; (try with_reducible rfl)⟩) (by assumption) ?_
        try simp only [Act.put, List.setIfInBounds_toArray, List.set_cons_zero, List.set_cons_succ]
        refine wpAnyH_done (by kernel_rfl) ?_ _
        clear hHeld
        go_wp2_with fail
        go_meet
        case rel => exact ⟨b7, v, rfl, rfl, K1, K7, HL.out, HB.out, H7W.out⟩
      refine AllReadyH.cons rfl (fun K hK => ?_) AllReadyH.nil
      rw [if_pos (by rfl)]
      refine wp_allocL 7 rfl rfl ?_
      have K7 := Oth.new x1 (vk 4 fun _ => .slice none 0 0) 69
      have hxs : w.heap.size < x1.heap.size := K1.lt
      have H7W := Lib.hid hxs
      clear hxs
      have K1 := K1.alloc (.cells (vk 4 fun _ => .slice none 0 0) 69)
      have HB : Hid (Below w.heap.size w (x1.alloc (.cells (vk 4 fun _ => .slice none 0 0) 69))) := HB.out.alloc HB.out.size _
      have H7L : Hid (x1.heap.size ≤ x1.heap.size) := BX.out.size
      have BX : Hid (Below x1.heap.size x1 (x1.alloc (.cells (vk 4 fun _ => .slice none 0 0) 69))) := BX.out.alloc BX.out.size _
      clear hHeld
      generalize x1.alloc (.cells (vk 4 fun _ => .slice none 0 0) 69) = x2 at *
      obtain ⟨b7, hb7⟩ : ∃ b, b = x1.heap.size := ⟨_, rfl⟩
      rw [← hb7] at K7 H7W ⊢
      have H7L : Hid (x1.heap.size ≤ b7) := by show _ ≤ _; omega
      clear hb7
      refine hK.out _ _ K1 (fun hHeld => ?_)
      clear hK K
      try simp only [Act.put, List.setIfInBounds_toArray, List.set_cons_zero, List.set_cons_succ]
      refine wpAnyH_ready (rs := [5]) (by kernel_rfl) (by simp) ?_
      refine AllReadyH.cons rfl (fun K hK => ?_) AllReadyH.nil
      go_simp
      refine (l6Still_any f k _ HV.out HK.out).mono ?_
      rintro e x3 ⟨rfl, hb⟩
      have BX : Hid (Below x1.heap.size x1 x3) := BX.out.trans (hb.mono BX.out.size)
      have K1 := K1.below hb K1.lt
      have HB : Hid (Below w.heap.size w x3) := HB.out.trans (hb.mono HB.out.size)
      have K7 := K7.below hb K7.lt
      clear hb hHeld
      go_wp2_with fail
      refine hK.out _ _ K1 (fun hHeld => ?_)
      clear hK K
      try simp only [Act.put, List.setIfInBounds_toArray, List.set_cons_zero, List.set_cons_succ]
      refine wpAnyH_ready (rs := [7]) (by kernel_rfl) (by simp) ?_
      refine AllReadyH.cons rfl (fun K hK => ?_) AllReadyH.nil
      rw [if_pos (by rfl)]
      refine wp_store_vk _ _ _ rfl rfl rfl K7 sizeLL H1.out rfl ?_
      have K1 := K1.rowOther b7 (vk 4 v) (by have := H7W.out; omega)
      have HB : Hid (Below w.heap.size w (x3.setRow b7 (vk 4 v))) := below_setRow HB.out (Nat.le_of_lt H7W.out) _
      have BX : Hid (Below x1.heap.size x1 (x3.setRow b7 (vk 4 v))) := below_setRow BX.out H7L.out _
      have HL : Hid (LinesB (x3.setRow b7 (vk 4 v)) (w.heap.size + 1) f k 4 v) := (HL.out.below BX.out).wide HXS.out
      have K7 := K7.row (vk 4 v)
      clear hHeld BX
      generalize x3.setRow b7 (vk 4 v) = x4 at *
      refine hK.out _ _ K1 (fun hHeld => ?_)
      clear hK K
      try simp only [Act.put, List.setIfInBounds_toArray, List.set_cons_zero, List.set_cons_succ]
      refine wpAnyH_take (i := 8) (oi := { dst := some 8, op := _, type := _, pos := _, after := _, guard := _ }) (v := .bool (sameB (slideB f k) f)) rfl (by kernel_rfl) (by kernel_rfl) (by kernel_rfl) (fun _ _ _ h => h) (Or.inl ⟨by rfl, by intro w hSw; clear hSw; go_simp; (try with_reducible rfl)⟩) (by assumption) ?_
      try simp only [Act.put, List.setIfInBounds_toArray, List.set_cons_zero, List.set_cons_succ]
      refine wpAnyH_done (by kernel_rfl) ?_ _
      clear hHeld
      go_wp2_with fail
      go_meet
      case rel => exact ⟨b7, v, rfl, rfl, K1, K7, HL.out, HB.out, H7W.out⟩
    refine AllReadyH.cons rfl (fun K hK => ?_) AllReadyH.nil
    rw [if_pos (by rfl)]
    refine wp_allocL 7 rfl rfl ?_
    have K7 := Oth.new x0 (vk 4 fun _ => .slice none 0 0) 69
    have hxs : w.heap.size < x0.heap.size := K1.lt
    have H7W := Lib.hid hxs
    clear hxs
    have K1 := K1.alloc (.cells (vk 4 fun _ => .slice none 0 0) 69)
    have HB : Hid (Below w.heap.size w (x0.alloc (.cells (vk 4 fun _ => .slice none 0 0) 69))) := HB.out.alloc HB.out.size _
    have H7N : Hid (x0.heap.size < (x0.alloc (.cells (vk 4 fun _ => .slice none 0 0) 69)).heap.size) := by show _ < _; simp
    clear hHeld
    generalize x0.alloc (.cells (vk 4 fun _ => .slice none 0 0) 69) = x1 at *
    generalize x0.heap.size = b7 at *
    refine hK.out _ _ K1 (fun hHeld => ?_)
    clear hK K
    try simp only [Act.put, List.setIfInBounds_toArray, List.set_cons_zero, List.set_cons_succ]
    refine wpAnyH_ready (rs := [2]) (by kernel_rfl) (by simp) ?_
    refine AllReadyH.cons rfl (fun K hK => ?_) AllReadyH.nil
    go_simp
    refine (l6Lists_any f k _ HV.out HK.out).mono ?_
    rintro e x2 ⟨v, rfl, hl, hb⟩
    have H1 := Lib.hid (listsOne hl)
    have hsx := HB.out.size
    have HL : Hid (LinesB x2 x1.heap.size f k 4 v) := hl
    have HXS : Hid (w.heap.size < x1.heap.size) := K1.lt
    have BX : Hid (Below x2.heap.size x2 x2) := Below.refl _ _
    have K1 := K1.below hb K1.lt
    have HB : Hid (Below w.heap.size w x2) := HB.out.trans (hb.mono HB.out.size)
    have K7 := K7.below hb K7.lt
    clear hl hb hHeld hsx
    go_wp2_with fail
    refine hK.out _ _ K1 (fun hHeld => ?_)
    clear hK K
    try simp only [Act.put, List.setIfInBounds_toArray, List.set_cons_zero, List.set_cons_succ]
    refine wpAnyH_ready (rs := [5]) (by kernel_rfl) (by simp) ?_
    refine AllReadyH.cons rfl (fun K hK => ?_) AllReadyH.nil
    go_simp
    refine (l6Still_any f k _ HV.out HK.out).mono ?_
    rintro e x3 ⟨rfl, hb⟩
    have BX : Hid (Below x2.heap.size x2 x3) := BX.out.trans (hb.mono BX.out.size)
    have K1 := K1.below hb K1.lt
    have HB : Hid (Below w.heap.size w x3) := HB.out.trans (hb.mono HB.out.size)
    have K7 := K7.below hb K7.lt
    clear hb hHeld
    go_wp2_with fail
    refine hK.out _ _ K1 (fun hHeld => ?_)
    clear hK K
    try simp only [Act.put, List.setIfInBounds_toArray, List.set_cons_zero, List.set_cons_succ]
    refine wpAnyH_ready (rs := [7]) (by kernel_rfl) (by simp) ?_
    refine AllReadyH.cons rfl (fun K hK => ?_) AllReadyH.nil
    rw [if_pos (by rfl)]
    refine wp_store_vk _ _ _ rfl rfl rfl K7 sizeLL H1.out rfl ?_
    have K1 := K1.rowOther b7 (vk 4 v) (by have := H7W.out; omega)
    have HB : Hid (Below w.heap.size w (x3.setRow b7 (vk 4 v))) := below_setRow HB.out (Nat.le_of_lt H7W.out) _
    have HL : Hid (LinesB (x3.setRow b7 (vk 4 v)) (w.heap.size + 1) f k 4 v) := ((HL.out.below BX.out).rowOther b7 _ H7N.out).wide HXS.out
    have K7 := K7.row (vk 4 v)
    clear hHeld BX
    generalize x3.setRow b7 (vk 4 v) = x4 at *
    refine hK.out _ _ K1 (fun hHeld => ?_)
    clear hK K
    try simp only [Act.put, List.setIfInBounds_toArray, List.set_cons_zero, List.set_cons_succ]
    refine wpAnyH_take (i := 8) (oi := { dst := some 8, op := _, type := _, pos := _, after := _, guard := _ }) (v := .bool (sameB (slideB f k) f)) rfl (by kernel_rfl) (by kernel_rfl) (by kernel_rfl) (fun _ _ _ h => h) (Or.inl ⟨by rfl, by intro w hSw; clear hSw; go_simp; (try with_reducible rfl)⟩) (by assumption) ?_
    try simp only [Act.put, List.setIfInBounds_toArray, List.set_cons_zero, List.set_cons_succ]
    refine wpAnyH_done (by kernel_rfl) ?_ _
    clear hHeld
    go_wp2_with fail
    go_meet
    case rel => exact ⟨b7, v, rfl, rfl, K1, K7, HL.out, HB.out, H7W.out⟩
  case rest =>
    clear K1 HB zl
    obtain ⟨b7, v, rfl, rfl, K1, K7, hl, hb, hb7⟩ := hcut
    have H7 := Lib.hid hb7
    obtain ⟨ST, hST⟩ : ∃ b, b = sameB (slideB f k) f := ⟨_, rfl⟩
    rw [← hST]
    have HST : Hid ((!ST) = isMv f k) := by show _ = _; rw [hST, isMv_not, Bool.not_not]
    clear hST
    have HL := Lib.hid ((hl.toT).alloc (.cells (mk 16 fun _ => 0) 23))
    have hsz : w.heap.size ≤ wc.heap.size := hb.size
    have hkw := K1.lt
    have h7w := K7.lt
    have K1 := K1.alloc (.cells (mk 16 fun _ => 0) 23)
    have K7 := K7.alloc (.cells (mk 16 fun _ => 0) 23)
    have K9 := Blk.new wc 16 (fun _ => 0) 23
    have HB : Hid (Below w.heap.size w (wc.alloc (.cells (mk 16 fun _ => 0) 23))) := hb.alloc hsz _
    clear hl hb hb7
    go_wp2_with fail
    generalize wc.alloc (.cells (mk 16 fun _ => 0) 23) = w2 at *
    generalize wc.heap.size = b9 at *
    go_loopg [10] 4 (fun gk s10 wr => ∃ i : Nat, i + gk = 4 ∧ s10 = .int .i64 i ∧ Blk wr w.heap.size 16 f 28 ∧ Oth wr b7 (vk 4 v) 69 ∧ Blk wr b9 16 (mkU O k i 0) 23 ∧ Hid (LinesT wr b9 f k 4 v) ∧ Hid (Below w.heap.size w wr))
    case atStart => exact ⟨0, by omega, rfl, K1, K7, K9.congr fun j _ => (mkU_zero O k j).symm, HL, HB⟩
    case round =>
      clear K1 K7 K9 HL HB
      obtain ⟨i, hig, rfl, K1, K7, K9, HL, HB⟩ := hrel
      cases gk with
      | zero =>
        have hi9 : ¬ ((i : Int) < 4) := by omega
        obtain rfl : i = 4 := by omega
        have K9 := K9.congr (g := fun j => if O j then 1 else 0) fun j hj => mkU_all O hj
        have hs9 := HB.out.size
        have HO : OwnsCells (wr.alloc (.cells #[] 63)) (w.heap.size + 1) (.slice (some ⟨wr.heap.size, 0, none⟩) 0 0) 0 [] :=
          World.ownsRow_made (base := w.heap.size + 1) (e := 63) (size := 2) wr #[] 0 (by have := K1.lt; omega) (by decide) rfl
        have K9 := K9.alloc (.cells #[] 63)
        have HB : Hid (Below w.heap.size w (wr.alloc (.cells #[] 63))) := HB.out.alloc HB.out.size _
        clear K1 K7 HL
        go_wp2_with fail
        generalize wr.alloc (.cells #[] 63) = w5 at *
        go_loopg [15, 16] 4 (fun g s15 s16 wr => ∃ (r : Nat) (u : Value), r + g = 4 ∧ s16 = .int .i64 r ∧ u = s15 ∧ (∃ gg cap, u = .slice (some ⟨gg, 0, none⟩) (ceN O (r * 4)) cap) ∧ OwnsCells wr (w.heap.size + 1) u (ceN O (r * 4)) (ceL O (r * 4)) ∧ Blk wr b9 16 (fun j => if O j then 1 else 0) 23 ∧ b9 < w5.heap.size ∧ Hid (Below w.heap.size w wr))
        case atStart => exact ⟨0, _, by omega, rfl, rfl, ⟨_, _, rfl⟩, HO, K9, K9.lt, HB⟩
        case round =>
          clear K9 HB HO
          obtain ⟨r, u, hrg, rfl, rfl, hv, ho, K9, h95, hb⟩ := hrel
          cases gk with
          | zero =>
            have hr : ¬ ((r : Int) < 4) := by omega
            obtain rfl : r = 4 := by omega
            obtain ⟨gg, cap, rfl⟩ := hv
            go_wp2_with fail
            go_ret
            exact ⟨gg, cap, rfl, ownsRow_wide ho (by omega), hb.out⟩
          | succ g =>
            have hr4 : (r : Int) < 4 := by omega
            have hr5 : r < 4 := by omega
            go_wp2_with fail
            go_loopg [15, 17] 4 (fun h s15 s17 wx => ∃ (c : Nat) (u : Value), c + h = 4 ∧ s17 = .int .i64 c ∧ u = s15 ∧ (∃ gg cap, u = .slice (some ⟨gg, 0, none⟩) (ceN O (r * 4 + c)) cap) ∧ OwnsCells wx (w.heap.size + 1) u (ceN O (r * 4 + c)) (ceL O (r * 4 + c)) ∧ Blk wx b9 16 (fun j => if O j then 1 else 0) 23 ∧ Hid (Below w.heap.size w wx))
            case atStart => exact ⟨0, _, by omega, rfl, rfl, hv, ho, K9, hb⟩
            case round =>
              clear hv ho K9 hb
              obtain ⟨c, u, hch, rfl, rfl, hv, ho, K9, hb⟩ := hrel
              cases gk with
              | zero =>
                have hc : ¬ ((c : Int) < 4) := by omega
                have HC : Hid (r * 4 + c = (r + 1) * 4) := by show _ = _; omega
                go_wp2_with fail
                go_roundg g
                case rel => exact ⟨r + 1, _, by omega, by go_num, rfl, by rw [HC.out] at hv; exact hv, by rw [HC.out] at ho; exact ho, K9, h95, hb⟩
                case measure => omega
              | succ q9 =>
                have hc : (c : Int) < 4 := by omega
                have hc5 : c < 4 := by omega
                have hn := ceN_le O (r * 4 + c)
                have hn16 : ceN O (r * 4 + c) ≤ 16 := by omega
                have HQ : Hid ((r * 4 + c) / 4 = r ∧ (r * 4 + c) % 4 = c) := by show _ ∧ _; omega
                have c1 := K9.cell (i := r * 4 + c) (by omega)
                have ho0 : wr.ownsRow (w.heap.size + 1) 63 2 u (ceN O (r * 4 + c)) ((ceL O (r * 4 + c)).map (Value.int .i64)) := ho
                have hsz := hb.out.size
                have hlt := K9.lt
                clear ho
                cases ha : O (r * 4 + c) with
                | true =>
                  obtain ⟨y1, y2⟩ := ce_yes ha
                  have Y1 := Lib.hid y1
                  have Y2 := Lib.hid y2
                  rw [ha] at c1
                  simp only [if_true] at c1
                  clear y1 y2 ha
                  go_wp2_with (at_builtin; refine wpList_append_own _ rfl _ _ 42 rfl (w.heap.size + 1) 63 i0 (.agg #[.int .i64 0, .int .i64 0]) 2 16 Try.underlying42 hi hz0 hz1 hz2 rfl (by decide) _ _ _ rfl (ho0.alloc _) ⟨wr.heap.size, 0, none⟩ 1 1 [.int .i64 r, .int .i64 c] rfl rfl ?c1 ?c2 ?c3 ?c4 ?c5 ?_)
                  case c1 => exact cell_two_new _ _ _ _
                  case c2 => simp [Value.oneCell']
                  case c3 => unfold maxLen; omega
                  case c4 => omega
                  case c5 => simp; omega
                  intro v' w6 hown' hgrow' _
                  obtain ⟨gg, cap, hv'⟩ := ownsRow_succ hown'
                  have HV' : Hid (∃ gg cap, v' = .slice (some ⟨gg, 0, none⟩) (ceN O (r * 4 + c) + 1) cap) := ⟨gg, cap, hv'⟩
                  have HB2 : Hid (Below w.heap.size w w6) := ((hb.out).alloc hsz _).grown hgrow' (by simp; omega) (fun j hj => by have := (ho0.lt j hj).1; omega)
                  have K9 := (K9.alloc (.cells #[.int .i64 r, .int .i64 c] 63)).grown hgrow' (fun e => own_ne_blk ho0 K9 (by decide) e.symm)
                  have HO : Hid (OwnsCells w6 (w.heap.size + 1) v' (ceN O (r * 4 + c) + 1) (ceL O (r * 4 + c) ++ [(r : Int), (c : Int)])) := by
                    show OwnsCells _ _ _ _ _
                    unfold OwnsCells
                    rw [List.map_append]
                    exact hown'
                  clear hown' hgrow' ho0 hv'
                  go_wp2_with fail
                  go_roundg q9
                  case rel => exact ⟨c + 1, _, by omega, by go_num, rfl, by rw [show r * 4 + (c + 1) = r * 4 + c + 1 by omega, Y2.out]; exact HV'.out, by rw [show r * 4 + (c + 1) = r * 4 + c + 1 by omega, Y1.out, Y2.out, HQ.out.1, HQ.out.2]; exact HO.out, K9, HB2⟩
                  case measure => omega
                | false =>
                  obtain ⟨y1, y2⟩ := ce_no ha
                  have Y1 := Lib.hid y1
                  have Y2 := Lib.hid y2
                  rw [ha] at c1
                  simp only [Bool.false_eq_true, if_false] at c1
                  clear y1 y2 ha
                  go_wp2_with fail
                  go_roundg q9
                  case rel => exact ⟨c + 1, _, by omega, by go_num, rfl, by rw [show r * 4 + (c + 1) = r * 4 + c + 1 by omega, Y2.out]; exact hv, by rw [show r * 4 + (c + 1) = r * 4 + c + 1 by omega, Y1.out, Y2.out]; exact ho0, K9, hb⟩
                  case measure => omega
      | succ g =>
        have hi4 : (i : Int) < 4 := by omega
        have hi0 : (0 : Int) ≤ (i : Int) := by omega
        have hi9 : i < 4 := by omega
        have hs9 := HB.out.size
        have h9 := K9.lt
        go_wp2_with fail
        refine (l2Line_nat k i _ HK.out hi9).mono ?_
        rintro e w3 ⟨rfl, hb⟩
        have hs3 := hb.size
        have K1 := (K1.below hb K1.lt).alloc (.cells (mk 8 (lineV k i)) 110)
        have K7 := (K7.below hb K7.lt).alloc (.cells (mk 8 (lineV k i)) 110)
        have K9 := (K9.below hb K9.lt).alloc (.cells (mk 8 (lineV k i)) 110)
        have HL : Hid (LinesT (w3.alloc (.cells (mk 8 (lineV k i)) 110)) b9 f k 4 v) := (HL.out.below hb).alloc _
        have K11 := Blk.new w3 8 (lineV k i) 110
        have HB : Hid (Below w.heap.size w w3) := HB.out.trans (hb.mono HB.out.size)
        have HB : Hid (Below w.heap.size w (w3.alloc (.cells (mk 8 (lineV k i)) 110))) := HB.out.alloc HB.out.size _
        clear hb
        go_wp2_with fail
        generalize w3.alloc (.cells (mk 8 (lineV k i)) 110) = w4 at *
        have h911 : b9 < w3.heap.size := by omega
        generalize w3.heap.size = b11 at *
        go_loopg [12] 4 (fun gp s12 wx => ∃ p : Nat, p + gp = 4 ∧ s12 = .int .i64 p ∧ Blk wx w.heap.size 16 f 28 ∧ Oth wx b7 (vk 4 v) 69 ∧ Blk wx b9 16 (mkU O k i p) 23 ∧ Blk wx b11 8 (lineV k i) 110 ∧ Hid (LinesT wx b9 f k 4 v) ∧ Hid (Below w.heap.size w wx))
        case atStart => exact ⟨0, by omega, rfl, K1, K7, K9, K11, HL, HB⟩
        case round =>
          clear K1 K7 K9 K11 HL HB
          obtain ⟨p, hpg, rfl, K1, K7, K9, K11, HL, HB⟩ := hrel
          cases gk with
          | zero =>
            have hp : ¬ ((p : Int) < 4) := by omega
            obtain rfl : p = 4 := by omega
            have K9 := K9.congr fun j hj => mkU_line O k i hj
            go_wp2_with fail
            go_roundg g
            case rel => exact ⟨i + 1, by omega, by go_num, K1, K7, K9, HL, HB⟩
            case measure => omega
          | succ q9 =>
            have hp4 : (p : Int) < 4 := by omega
            have hp0 : (0 : Int) ≤ (p : Int) := by omega
            have hp9 : p < 4 := by omega
            have HMP := Lib.hid (HMK.out i p hi9 hp9)
            obtain ⟨g0, c0, hv, _, hCX⟩ := HL.out i hi9
            have HVI := Lib.hid hv
            have hn15 := lnR_15 f k i
            have HYF := Lib.hid (fun n (hn : n < (lnR f k i).length) => ye_flat (p := p) hn)
            have HYL := Lib.hid (fun n => ye_le (lnR f k i) p n)
            clear hv
            generalize hR : lnR f k i = R at *
            generalize hN : R.length = n at *
            generalize hH : flatF R = h at *
            go_wp2_with fail
            go_loopg [13, 14] n (fun gj s13 s14 wy => ∃ j : Nat, j + gj = n ∧ s14 = .int .i64 j ∧ s13 = .int .i64 (yeN R p j : Nat) ∧ CAt wy g0 (n * 4) h ∧ Blk wy w.heap.size 16 f 28 ∧ Oth wy b7 (vk 4 v) 69 ∧ Blk wy b9 16 (mkU O k i p) 23 ∧ Blk wy b11 8 (lineV k i) 110 ∧ Hid (LinesT wy b9 f k 4 v) ∧ Hid (Below w.heap.size w wy))
            case atStart => exact ⟨0, by omega, rfl, rfl, hCX, K1, K7, K9, K11, HL, HB⟩
            case round =>
              clear hCX K1 K7 K9 K11 HL HB
              obtain ⟨j, hjg, rfl, rfl, hCX, K1, K7, K9, K11, HL, HB⟩ := hrel
              have c5 := K7.get (i := i) hi9
              rw [HVI.out] at c5
              have hyl := HYL.out j
              cases gk with
              | zero =>
                have hj : ¬ ((j : Int) < (n : Int)) := by omega
                obtain rfl : j = n := by omega
                have h7 := H7.out
                by_cases h0 : 0 < yeN R p j
                · have HO : Hid (O (pos k i p) = true) := by show _ = _; rw [← HMP.out]; exact decide_eq_true h0
                  clear HMP HYF
                  generalize yeN R p j = y at *
                  have h0i : (0 : Int) < (y : Int) := by omega
                  have hq16 := pos_lt (d := k) hi9 hp9
                  have e0 := K11.cell (i := p * 2) (by omega)
                  have e1 := K11.cell (i := p * 2 + 1) (by omega)
                  rw [lineV_row] at e0
                  rw [lineV_col] at e1
                  have hr4 : ((pos k i p / 4 : Nat) : Int) < 4 := by omega
                  have hr0 : (0 : Int) ≤ ((pos k i p / 4 : Nat) : Int) := by omega
                  have hc4 : ((pos k i p % 4 : Nat) : Int) < 4 := by omega
                  have hc0 : (0 : Int) ≤ ((pos k i p % 4 : Nat) : Int) := by omega
                  have HQ : Hid (pos k i p / 4 * 4 + pos k i p % 4 = pos k i p) := by show _ = _; omega
                  have c9 := K9.cell (i := pos k i p / 4 * 4 + pos k i p % 4) (by omega)
                  have f9 := K9.free (pos k i p / 4 * 4 + pos k i p % 4)
                  have hU : ∀ j, j < 16 → upd (mkU O k i p) (pos k i p) 1 j = mkU O k i (p + 1) j := fun j hj => mkU_yes hi9 hp9 HO.out hj
                  have HU := Lib.hid hU
                  have HS := K9.set (i := pos k i p / 4 * 4 + pos k i p % 4) (by omega) 1
                  rw [HQ.out] at HS
                  have HSS := Lib.hid (HS.congr hU)
                  have HK1 := Lib.hid (K1.setOther ⟨b9, pos k i p / 4 * 4 + pos k i p % 4, none⟩ (.int .i64 1) (by dsimp only; omega))
                  have HK7 := Lib.hid (K7.setOther ⟨b9, pos k i p / 4 * 4 + pos k i p % 4, none⟩ (.int .i64 1) (by dsimp only; omega))
                  have HK11 := Lib.hid (K11.setOther ⟨b9, pos k i p / 4 * 4 + pos k i p % 4, none⟩ (.int .i64 1) (by dsimp only; omega))
                  have HLS := Lib.hid (HL.out.setOther ⟨b9, pos k i p / 4 * 4 + pos k i p % 4, none⟩ (.int .i64 1) (Nat.le_refl _))
                  have HBS := Lib.hid (HB.out.setCell (p := ⟨b9, pos k i p / 4 * 4 + pos k i p % 4, none⟩) (by dsimp only; omega) (.int .i64 1))
                  rw [← HQ.out] at HSS
                  clear hU HS
                  generalize pos k i p / 4 = r at *
                  generalize pos k i p % 4 = c at *
                  go_wp2_with fail
                  go_region
                  all_goals
                    go_wp2_with fail
                    go_roundg q9
                    case rel => exact ⟨p + 1, by omega, by go_num, HK1.out, HK7.out, HSS.out, HK11.out, HLS, HBS.out.drew⟩
                    case measure => omega
                · have HO : Hid (O (pos k i p) = false) := by show _ = _; rw [← HMP.out]; exact decide_eq_false h0
                  have hy0 : yeN R p j = 0 := by omega
                  rw [hy0]
                  clear HMP HYF h0
                  have HU := Lib.hid (fun j (hj : j < 16) => mkU_no (d := k) (i := i) (p := p) HO.out hj)
                  go_wp2_with fail
                  go_roundg q9
                  case rel => exact ⟨p + 1, by omega, by go_num, K1, K7, K9.congr HU.out, K11, HL, HB⟩
                  case measure => omega
              | succ gj =>
                have hj : (j : Int) < (n : Int) := by omega
                have hj0 : (0 : Int) ≤ (j : Int) := by omega
                have HS := Lib.hid (HYF.out j (by omega))
                go_wp2_with ((with_reducible show wpList _ _ _ (Oper.mk _ (Op.load 22 _) _ _ _ _ :: _) _ _); refine loadAR (hCX) (by omega) rfl rfl rfl ?_)
                refine (l6Merged_any _ _).mono ?_
                rintro e w6 ⟨rfl, hb⟩
                have hCX := hCX.below hb
                have K1 := K1.below hb K1.lt
                have K7 := K7.below hb K7.lt
                have K9 := K9.below hb K9.lt
                have K11 := K11.below hb K11.lt
                have HL : Hid (LinesT w6 b9 f k 4 v) := HL.out.below hb
                have HB : Hid (Below w.heap.size w w6) := HB.out.trans (hb.mono HB.out.size)
                clear hb
                have iT := fun W => idxT (mgB fun c => h (j * 4 + c)) p hp9 W
                generalize mgB (fun c => h (j * 4 + c)) = bb at *
                cases hbb : bb p with
                | true =>
                  have HS : Hid (yeN R p (j + 1) = yeN R p j + 1) := by show _ = _; rw [HS.out, hbb]; rfl
                  rw [hbb] at iT
                  clear hbb
                  go_wp2_with fail
                  go_roundg gj
                  case rel => exact ⟨j + 1, by omega, by go_num, by rw [HS.out]; go_num, hCX, K1, K7, K9, K11, HL, HB⟩
                  case measure => omega
                | false =>
                  have HS : Hid (yeN R p (j + 1) = yeN R p j) := by show _ = _; rw [HS.out, hbb]; rfl
                  rw [hbb] at iT
                  clear hbb
                  go_wp2_with fail
                  go_roundg gj
                  case rel => exact ⟨j + 1, by omega, by go_num, by rw [HS.out], hCX, K1, K7, K9, K11, HL, HB⟩
                  case measure => omega

set_option maxHeartbeats 1000000 in
theorem specMustMerge_any (f : Nat → Int) (d : Int) (w : World) :
    Calls Try.prog 34 #[.agg (mk 16 f), .int .i64 d] w fun e w' => ∃ g cap, e = .returned (.tuple #[.slice (some ⟨g, 0, none⟩) (mmN false f d) cap, .bool (mbO f d)]) ∧
      OwnsCells w' w.heap.size (.slice (some ⟨g, 0, none⟩) (mmN false f d) cap) (mmN false f d) (mmL false f d) ∧ Below w.heap.size w w' := by
  have K1 := Blk.new w 16 f 28
  have HB := Lib.hid ((Below.refl w.heap.size w).alloc (Nat.le_refl _) (.cells (mk 16 f) 28))
  by_cases hV : Vd f
  · by_cases hd : 0 ≤ d ∧ d ≤ 3
    · obtain ⟨k, rfl⟩ := Int.eq_ofNat_of_zero_le hd.1
      have HV := Lib.hid hV
      have HK : Hid (k < 4) := by show _ < _; omega
      have d0 : (0 : Int) ≤ (k : Int) := by omega
      have d3 : (k : Int) ≤ 3 := by omega
      have hcb : cbR f (k : Int) = cntB f k := cbR_nat hV HK.out
      by_cases h0 : cntB f k = 0
      · have hno : ¬ MbOk f (k : Int) := fun h => h.2 (hcb.trans h0)
        obtain ⟨y1, y2⟩ := mm_no false hno
        rw [(mb_no hno).1, y1, y2]
        have H0 := Lib.hid h0
        clear y1 y2 hcb h0 hV hd hno
        go_enter Try.func34, Try.ntmps34
        go_wp2_with ((with_reducible show wpList _ _ _ (Oper.mk _ (Op.load 28 _) _ _ _ _ :: _) _ _); refine loadB (K1) rfl rfl rfl ?_)
        refine (l2Board_yes _ _ HV.out).mono ?_
        rintro e w1 ⟨rfl, hb⟩
        have K1 := K1.below hb K1.lt
        have HB : Hid (Below w.heap.size w w1) := HB.out.trans (hb.mono HB.out.size)
        clear hb
        go_wp2_with fail
        refine (l2Side_yes _ _ d0 d3).mono ?_
        rintro e w' ⟨rfl, rfl⟩
        go_wp2_with ((with_reducible show wpList _ _ _ (Oper.mk _ (Op.load 28 _) _ _ _ (some _) :: _) _ _); refine loadgB (K1) rfl rfl rfl ?_)
        refine (l6Count_any f k _ HV.out HK.out).mono ?_
        rw [H0.out]
        rintro e w2 ⟨rfl, hb⟩
        have HB : Hid (Below w.heap.size w w2) := HB.out.trans (hb.mono HB.out.size)
        clear hb
        have HO := Lib.hid (World.ownsRow_made (base := w.heap.size) (e := 63) (size := 2) w2 #[] 0 HB.out.size (by decide) rfl)
        have HB2 : Hid (Below w.heap.size w (w2.alloc (.cells #[] 63))) := HB.out.alloc HB.out.size _
        go_wp2_with fail
        go_ret2
        exact ⟨_, _, rfl, HO.out, HB2.out⟩
      · have hok : MbOk f (k : Int) := ⟨⟨hV, hd⟩, fun e => h0 (hcb.symm.trans e)⟩
        obtain ⟨y1, y2⟩ := mm_yes false hok
        rw [(mb_yes hok).1, y1, y2, Int.toNat_natCast]
        have q0 : (cntB f k == 0) = false := by simpa using h0
        clear y1 y2 hcb h0 hV hd hok
        go_enter Try.func34, Try.ntmps34
        go_wp2_with ((with_reducible show wpList _ _ _ (Oper.mk _ (Op.load 28 _) _ _ _ _ :: _) _ _); refine loadB (K1) rfl rfl rfl ?_)
        refine (l2Board_yes _ _ HV.out).mono ?_
        rintro e w1 ⟨rfl, hb⟩
        have K1 := K1.below hb K1.lt
        have HB : Hid (Below w.heap.size w w1) := HB.out.trans (hb.mono HB.out.size)
        clear hb
        go_wp2_with fail
        refine (l2Side_yes _ _ d0 d3).mono ?_
        rintro e w' ⟨rfl, rfl⟩
        go_wp2_with ((with_reducible show wpList _ _ _ (Oper.mk _ (Op.load 28 _) _ _ _ (some _) :: _) _ _); refine loadgB (K1) rfl rfl rfl ?_)
        refine (l6Count_any f k _ HV.out HK.out).mono ?_
        rintro e w2 ⟨rfl, hb⟩
        have K1 := K1.below hb K1.lt
        have HB : Hid (Below w.heap.size w w2) := HB.out.trans (hb.mono HB.out.size)
        clear hb
        go_wp2_with ((with_reducible show wpList _ _ _ (Oper.mk _ (Op.load 28 _) _ _ _ _ :: _) _ _); refine loadB (K1) rfl rfl rfl ?_)
        refine (l6Mergers_MustMerge f k _ HV.out HK.out).mono ?_
        rintro e w3 ⟨g, cap, rfl, ho, hb⟩
        have HO := Lib.hid (ownsRow_wide ho HB.out.size)
        have HB : Hid (Below w.heap.size w w3) := HB.out.trans (hb.mono HB.out.size)
        clear ho hb
        go_wp2_with fail
        go_ret2
        exact ⟨g, cap, rfl, HO.out, HB.out⟩
    · have hno : ¬ MbOk f d := fun h => hd h.1.2
      obtain ⟨y1, y2⟩ := mm_no false hno
      rw [(mb_no hno).1, y1, y2]
      have HV := Lib.hid hV
      have HD := Lib.hid (show d < 0 ∨ 3 < d by omega)
      clear hV hd y1 y2 hno
      go_enter Try.func34, Try.ntmps34
      go_wp2_with ((with_reducible show wpList _ _ _ (Oper.mk _ (Op.load 28 _) _ _ _ _ :: _) _ _); refine loadB (K1) rfl rfl rfl ?_)
      refine (l2Board_yes _ _ HV.out).mono ?_
      rintro e w1 ⟨rfl, hb⟩
      have HB : Hid (Below w.heap.size w w1) := HB.out.trans (hb.mono HB.out.size)
      clear hb
      go_wp2_with fail
      refine (l2Side_no _ _ HD.out).mono ?_
      rintro e w' ⟨rfl, rfl⟩
      have HO := Lib.hid (World.ownsRow_made (base := w.heap.size) (e := 63) (size := 2) w1 #[] 0 HB.out.size (by decide) rfl)
      have HB2 : Hid (Below w.heap.size w (w1.alloc (.cells #[] 63))) := HB.out.alloc HB.out.size _
      go_wp2_with fail
      go_ret2
      exact ⟨_, _, rfl, HO.out, HB2.out⟩
  · have hno : ¬ MbOk f d := fun h => hV h.1.1
    obtain ⟨y1, y2⟩ := mm_no false hno
    rw [(mb_no hno).1, y1, y2]
    clear y1 y2 hno
    go_enter Try.func34, Try.ntmps34
    go_wp2_with ((with_reducible show wpList _ _ _ (Oper.mk _ (Op.load 28 _) _ _ _ _ :: _) _ _); refine loadB (K1) rfl rfl rfl ?_)
    refine (l2Board_no _ _ hV).mono ?_
    rintro e w1 ⟨rfl, hb⟩
    have HB : Hid (Below w.heap.size w w1) := HB.out.trans (hb.mono HB.out.size)
    clear hb
    have HO := Lib.hid (World.ownsRow_made (base := w.heap.size) (e := 63) (size := 2) w1 #[] 0 HB.out.size (by decide) rfl)
    have HB2 : Hid (Below w.heap.size w (w1.alloc (.cells #[] 63))) := HB.out.alloc HB.out.size _
    go_wp2_with fail
    go_ret2
    exact ⟨_, _, rfl, HO.out, HB2.out⟩
set_option maxHeartbeats 1000000 in
theorem specCanMerge_any (f : Nat → Int) (d : Int) (w : World) :
    Calls Try.prog 36 #[.agg (mk 16 f), .int .i64 d] w fun e w' => ∃ g cap, e = .returned (.tuple #[.slice (some ⟨g, 0, none⟩) (mmN true f d) cap, .bool (mbO f d)]) ∧
      OwnsCells w' w.heap.size (.slice (some ⟨g, 0, none⟩) (mmN true f d) cap) (mmN true f d) (mmL true f d) ∧ Below w.heap.size w w' := by
  have K1 := Blk.new w 16 f 28
  have HB := Lib.hid ((Below.refl w.heap.size w).alloc (Nat.le_refl _) (.cells (mk 16 f) 28))
  by_cases hV : Vd f
  · by_cases hd : 0 ≤ d ∧ d ≤ 3
    · obtain ⟨k, rfl⟩ := Int.eq_ofNat_of_zero_le hd.1
      have HV := Lib.hid hV
      have HK : Hid (k < 4) := by show _ < _; omega
      have d0 : (0 : Int) ≤ (k : Int) := by omega
      have d3 : (k : Int) ≤ 3 := by omega
      have hcb : cbR f (k : Int) = cntB f k := cbR_nat hV HK.out
      by_cases h0 : cntB f k = 0
      · have hno : ¬ MbOk f (k : Int) := fun h => h.2 (hcb.trans h0)
        obtain ⟨y1, y2⟩ := mm_no true hno
        rw [(mb_no hno).1, y1, y2]
        have H0 := Lib.hid h0
        clear y1 y2 hcb h0 hV hd hno
        go_enter Try.func36, Try.ntmps36
        go_wp2_with ((with_reducible show wpList _ _ _ (Oper.mk _ (Op.load 28 _) _ _ _ _ :: _) _ _); refine loadB (K1) rfl rfl rfl ?_)
        refine (l2Board_yes _ _ HV.out).mono ?_
        rintro e w1 ⟨rfl, hb⟩
        have K1 := K1.below hb K1.lt
        have HB : Hid (Below w.heap.size w w1) := HB.out.trans (hb.mono HB.out.size)
        clear hb
        go_wp2_with fail
        refine (l2Side_yes _ _ d0 d3).mono ?_
        rintro e w' ⟨rfl, rfl⟩
        go_wp2_with ((with_reducible show wpList _ _ _ (Oper.mk _ (Op.load 28 _) _ _ _ (some _) :: _) _ _); refine loadgB (K1) rfl rfl rfl ?_)
        refine (l6Count_any f k _ HV.out HK.out).mono ?_
        rw [H0.out]
        rintro e w2 ⟨rfl, hb⟩
        have HB : Hid (Below w.heap.size w w2) := HB.out.trans (hb.mono HB.out.size)
        clear hb
        have HO := Lib.hid (World.ownsRow_made (base := w.heap.size) (e := 63) (size := 2) w2 #[] 0 HB.out.size (by decide) rfl)
        have HB2 : Hid (Below w.heap.size w (w2.alloc (.cells #[] 63))) := HB.out.alloc HB.out.size _
        go_wp2_with fail
        go_ret2
        exact ⟨_, _, rfl, HO.out, HB2.out⟩
      · have hok : MbOk f (k : Int) := ⟨⟨hV, hd⟩, fun e => h0 (hcb.symm.trans e)⟩
        obtain ⟨y1, y2⟩ := mm_yes true hok
        rw [(mb_yes hok).1, y1, y2, Int.toNat_natCast]
        have q0 : (cntB f k == 0) = false := by simpa using h0
        clear y1 y2 hcb h0 hV hd hok
        go_enter Try.func36, Try.ntmps36
        go_wp2_with ((with_reducible show wpList _ _ _ (Oper.mk _ (Op.load 28 _) _ _ _ _ :: _) _ _); refine loadB (K1) rfl rfl rfl ?_)
        refine (l2Board_yes _ _ HV.out).mono ?_
        rintro e w1 ⟨rfl, hb⟩
        have K1 := K1.below hb K1.lt
        have HB : Hid (Below w.heap.size w w1) := HB.out.trans (hb.mono HB.out.size)
        clear hb
        go_wp2_with fail
        refine (l2Side_yes _ _ d0 d3).mono ?_
        rintro e w' ⟨rfl, rfl⟩
        go_wp2_with ((with_reducible show wpList _ _ _ (Oper.mk _ (Op.load 28 _) _ _ _ (some _) :: _) _ _); refine loadgB (K1) rfl rfl rfl ?_)
        refine (l6Count_any f k _ HV.out HK.out).mono ?_
        rintro e w2 ⟨rfl, hb⟩
        have K1 := K1.below hb K1.lt
        have HB : Hid (Below w.heap.size w w2) := HB.out.trans (hb.mono HB.out.size)
        clear hb
        go_wp2_with ((with_reducible show wpList _ _ _ (Oper.mk _ (Op.load 28 _) _ _ _ _ :: _) _ _); refine loadB (K1) rfl rfl rfl ?_)
        refine (l6Mergers_CanMerge f k _ HV.out HK.out).mono ?_
        rintro e w3 ⟨g, cap, rfl, ho, hb⟩
        have HO := Lib.hid (ownsRow_wide ho HB.out.size)
        have HB : Hid (Below w.heap.size w w3) := HB.out.trans (hb.mono HB.out.size)
        clear ho hb
        go_wp2_with fail
        go_ret2
        exact ⟨g, cap, rfl, HO.out, HB.out⟩
    · have hno : ¬ MbOk f d := fun h => hd h.1.2
      obtain ⟨y1, y2⟩ := mm_no true hno
      rw [(mb_no hno).1, y1, y2]
      have HV := Lib.hid hV
      have HD := Lib.hid (show d < 0 ∨ 3 < d by omega)
      clear hV hd y1 y2 hno
      go_enter Try.func36, Try.ntmps36
      go_wp2_with ((with_reducible show wpList _ _ _ (Oper.mk _ (Op.load 28 _) _ _ _ _ :: _) _ _); refine loadB (K1) rfl rfl rfl ?_)
      refine (l2Board_yes _ _ HV.out).mono ?_
      rintro e w1 ⟨rfl, hb⟩
      have HB : Hid (Below w.heap.size w w1) := HB.out.trans (hb.mono HB.out.size)
      clear hb
      go_wp2_with fail
      refine (l2Side_no _ _ HD.out).mono ?_
      rintro e w' ⟨rfl, rfl⟩
      have HO := Lib.hid (World.ownsRow_made (base := w.heap.size) (e := 63) (size := 2) w1 #[] 0 HB.out.size (by decide) rfl)
      have HB2 : Hid (Below w.heap.size w (w1.alloc (.cells #[] 63))) := HB.out.alloc HB.out.size _
      go_wp2_with fail
      go_ret2
      exact ⟨_, _, rfl, HO.out, HB2.out⟩
  · have hno : ¬ MbOk f d := fun h => hV h.1.1
    obtain ⟨y1, y2⟩ := mm_no true hno
    rw [(mb_no hno).1, y1, y2]
    clear y1 y2 hno
    go_enter Try.func36, Try.ntmps36
    go_wp2_with ((with_reducible show wpList _ _ _ (Oper.mk _ (Op.load 28 _) _ _ _ _ :: _) _ _); refine loadB (K1) rfl rfl rfl ?_)
    refine (l2Board_no _ _ hV).mono ?_
    rintro e w1 ⟨rfl, hb⟩
    have HB : Hid (Below w.heap.size w w1) := HB.out.trans (hb.mono HB.out.size)
    clear hb
    have HO := Lib.hid (World.ownsRow_made (base := w.heap.size) (e := 63) (size := 2) w1 #[] 0 HB.out.size (by decide) rfl)
    have HB2 : Hid (Below w.heap.size w (w1.alloc (.cells #[] 63))) := HB.out.alloc HB.out.size _
    go_wp2_with fail
    go_ret2
    exact ⟨_, _, rfl, HO.out, HB2.out⟩
end Go.Proofs.Ytphkidkkcknnmaa
