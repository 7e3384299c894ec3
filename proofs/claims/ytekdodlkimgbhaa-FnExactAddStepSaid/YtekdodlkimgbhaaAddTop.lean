/-
  The contracts of AddStep in the reference and in the program.
-/
import Derived.Test.YtekdodlkimgbhaaConcatT
import Derived.Test.YtekdodlkimgbhaaUndoTop
import Derived.Test.YtekdodlkimgbhaaPartTop
namespace Go.Proofs.Ytekdodlkimgbhaa
open Go.RowKit Plain
attribute [local go_sem] store_new store_newR
set_option linter.unusedVariables false
set_option linter.unusedSimpArgs false
/-- What AddStep returns. -/
def adF (f h : Nat → Int) (n : Nat) (t : Nat → Int) : Nat → Int := if addOk f h n t then f else fun _ => 0
def adN (f h : Nat → Int) (n : Nat) (t : Nat → Int) : Nat := if addOk f h n t then n + 1 else 0
theorem ad_yes {f h : Nat → Int} {n : Nat} {t : Nat → Int} (q : addOk f h n t) : adF f h n t = f ∧ adN f h n t = n + 1 := by simp [adF, adN, q]
theorem ad_no {f h : Nat → Int} {n : Nat} {t : Nat → Int} (q : ¬ addOk f h n t) : adF f h n t = (fun _ => 0) ∧ adN f h n t = 0 := by simp [adF, adN, q]
theorem infoSS : (Try.prog.info? 32).map (fun i => (i.zero, i.size)) = some (some (.slice none 0 0), 1) := by kernel_rfl
theorem wp_buildSS {w : World} {o : Oper} {a : Act} {K : Act → World → Prop} {Q : Exit → Act → World → Prop} (x y : Operand) (ho : o.op = .buildSlice 110 2 #[(0, x), (1, y)]) {p q : Option Addr} {n c m d : Nat} (hx : a.eval x = .slice p n c) (hy : a.eval y = .slice q m d)
    (h : K (a.put o.dst (.slice (some ⟨w.heap.size, 0, none⟩) 2 2)) (w.alloc (.cells #[.slice p n c, .slice q m d] 32))) : o.wp Try.prog a w K Q := by
  cases hq : Try.prog.info? 32 with
  | none => have := infoSS; simp [hq] at this
  | some i0 =>
    have hz : i0.zero = some (.slice none 0 0) ∧ i0.size = 1 := by simpa [hq] using infoSS
    refine Go.wp_buildSlice 110 32 2 #[(0, x), (1, y)] ho #[.slice p n c, .slice q m d] i0 _ Try.underlying110 hq hz.1 (by rw [hz.2]; decide) (by rw [hz.2]; decide) ?_ h
    rw [hz.2]
    have e : (Array.map (fun (p : Nat × Operand) => (p.1, a.eval p.2)) #[(0, x), (1, y)]).toList = [(0, .slice p n c), (1, .slice q m d)] := by simp [hx, hy]
    show Instr.fill _ _ (Array.map (fun (p : Nat × Operand) => (p.1, a.eval p.2)) #[(0, x), (1, y)]).toList = _
    rw [e]
    kernel_rfl
theorem wp_allocRp {w : World} {o : Oper} {a : Act} {K : Act → World → Prop} {Q : Exit → Act → World → Prop} (ho : o.op = .alloc 34)
    (h : K (a.put o.dst (.pointer (some ⟨w.heap.size, 0, none⟩))) (w.alloc (.cells (rpl (fun _ => 0) (.slice none 0 0)) 34))) : o.wp Try.prog a w K Q := by
  have z17 := zeroRp
  go_simp
  first
  | exact h
  | (simp only [ho] at *; exact h)
theorem implIs_over (f : Nat → Int) (a : Option Addr) (n cap : Nat) (w : World) (h40 : 40 < n) :
    Calls Try.prog 18 #[.agg (rpl f (.slice a n cap))] w fun e w' => e = .returned (.bool false) ∧ Below w.heap.size w w' := by
  have K1 := Rp.new w f (.slice a n cap) 34
  have HB0 := Lib.hid ((Below.refl w.heap.size w).alloc (Nat.le_refl _) (.cells (rpl f (.slice a n cap)) 34))
  have c16 := K1.last
  have hn40 : (40 : Int) < (n : Int) := by omega
  go_enter Try.func18, Try.ntmps18
  go_wp2_with ((with_reducible show wpList _ _ _ (Oper.mk _ (Op.load 31 _) _ _ _ _ :: _) _ _); refine loadRB (K1) rfl rfl rfl ?_)
  go_ret
  exact ⟨rfl, HB0.out⟩
theorem execU4 {o : Oper} {ev : Operand → Value} {w : World} {b : Nat} {f : Nat → Int} {t : TypeId} {x : Operand} (hg : Blk w b 4 f t) (ho : o.op = .load 49 x) (hx : ev x = .pointer (some ⟨b, 0, none⟩)) :
    (execOp ev o).run Try.prog w = .ok (.value (.agg (mk 4 f))) w := exec_load_blk _ x ho hx hg Try.underlying49 rfl sizeT
theorem Rp.grown {w w' : World} {b : Nat} {f : Nat → Int} {v : Value} {t : TypeId} {r : Option Nat} (h : Rp w b f v t) (hg : w.grownBy w' r) (hne : r ≠ some b) : Rp w' b f v t := by
  obtain ⟨_, _, _, _, hk⟩ := hg
  exact (hk b h.lt (fun e => hne e.symm)).trans h
theorem grown_cellAt (w : World) (p : Addr) (x : Value) : w.grownBy (w.setCell p x) (some p.block) := by
  refine ⟨rfl, rfl, rfl, ?_, fun j hj hne => heap_setCell_other w p j x (fun e => hne (by rw [e]))⟩
  simp
theorem KRow.low4 {w w' : World} {v : Value} {n : Nat} {h : Nat → Int} (r : KRow 4 w v n h) (hb : Below w.heap.size w w') : KRow 4 w' v n h := r.below hb
set_option maxHeartbeats 8000000 in
set_option maxRecDepth 20000 in
theorem implAdd_any (f : Nat → Int) (v : Value) (n : Nat) (h t : Nat → Int) (w : World) (hv : KRow 4 w v n h) (hn : n ≤ 1048576) :
    Calls Try.prog 27 #[.agg (rpl f v), .agg (mk 4 t)] w fun e w' => ∃ a c, e = .returned (.tuple #[.agg (rpl (adF f h n t) (.slice a (adN f h n t) c)), .bool (decide (addOk f h n t))]) ∧ OwnT w' w.heap.size (.slice a (adN f h n t) c) (adN f h n t) (addH h n t) ∧ Below w.heap.size w w' := by
  obtain ⟨i0, hi, hz0, hz1, hz2⟩ := info_parts infoT
  obtain ⟨g, cap, rfl, hle, hc⟩ := hv
  have z17 := zeroRp
  have hb0 := (((Below.refl w.heap.size w).alloc (Nat.le_refl _) (.cells (rpl f (.slice (some ⟨g, 0, none⟩) n cap)) 34)).alloc (by simp) (.cells (mk 4 t) 49)).alloc (by simp; omega) (.cells (rpl (fun _ => 0) (.slice none 0 0)) 34)
  have K1 := ((Rp.new w f (.slice (some ⟨g, 0, none⟩) n cap) 34).alloc (.cells (mk 4 t) 49)).alloc (.cells (rpl (fun _ => 0) (.slice none 0 0)) 34)
  have T1 := (Blk.new (w.alloc (.cells (rpl f (.slice (some ⟨g, 0, none⟩) n cap)) 34)) 4 t 49).alloc (.cells (rpl (fun _ => 0) (.slice none 0 0)) 34)
  have K2 := Rp.new ((w.alloc (.cells (rpl f (.slice (some ⟨g, 0, none⟩) n cap)) 34)).alloc (.cells (mk 4 t) 49)) (fun _ => 0) (.slice none 0 0) 34
  have HB := Lib.hid hb0
  simp only [World.size_alloc] at T1 K2
  have hg0 := hc.1
  have CM : CAt (((w.alloc (.cells (rpl f (.slice (some ⟨g, 0, none⟩) n cap)) 34)).alloc (.cells (mk 4 t) 49)).alloc (.cells (rpl (fun _ => 0) (.slice none 0 0)) 34)) g (n * 4) h := ((hc.alloc _).alloc _).alloc _
  clear hc hb0
  go_enter Try.func27, Try.ntmps27
  go_wp2_with fail
  generalize (((w.alloc (.cells (rpl f (.slice (some ⟨g, 0, none⟩) n cap)) 34)).alloc (.cells (mk 4 t) 49)).alloc (.cells (rpl (fun _ => 0) (.slice none 0 0)) 34)) = wr at *
  refine wp_region_held_drew (S := fun W => Rp W w.heap.size f (.slice (some ⟨g, 0, none⟩) n cap) 34 ∧ Blk W (w.heap.size + 1) 4 t 49 ∧ CAt W g (n * 4) h) (by kernel_rfl) (⟨K1.drew, T1.drew, CM.drew⟩) (fun hHeld => ?_)
  have K1 : Rp wr.drew w.heap.size f (.slice (some ⟨g, 0, none⟩) n cap) 34 := K1.drew
  have T1 : Blk wr.drew (w.heap.size + 1) 4 t 49 := T1.drew
  have K2 : Rp wr.drew (w.heap.size + 2) (fun _ => 0) (.slice none 0 0) 34 := K2.drew
  have CM : CAt wr.drew g (n * 4) h := CM.drew
  have HB : Hid (Below w.heap.size w wr.drew) := HB.out.drew
  generalize wr.drew = x0 at *
  refine wpAnyH_take (i := 0) (oi := { dst := some 7, op := _, type := _, pos := _, after := _, guard := _ }) (v := .pointer (some ⟨w.heap.size, 0, none⟩)) rfl (by kernel_rfl) (by kernel_rfl) (by kernel_rfl) (fun _ _ _ h => h) (Or.inl ⟨by rfl, by intro w hSw; clear hSw; go_simp; (try with_reducible rfl)⟩) (by assumption) ?_
  try simp only [Act.put, List.setIfInBounds_toArray, List.set_cons_zero, List.set_cons_succ]
  refine wpAnyH_take (i := 1) (oi := { dst := some 8, op := _, type := _, pos := _, after := _, guard := _ }) (v := .agg (mk 16 f)) rfl (by kernel_rfl) (by kernel_rfl) (by kernel_rfl) (fun _ _ _ h => h) (Or.inl ⟨by rfl, fun _ q => execRB q.1 rfl rfl⟩) (by assumption) ?_
  try simp only [Act.put, List.setIfInBounds_toArray, List.set_cons_zero, List.set_cons_succ]
  refine wpAnyH_take (i := 2) (oi := { dst := some 9, op := _, type := _, pos := _, after := _, guard := _ }) (v := .pointer (some ⟨w.heap.size, 16, none⟩)) rfl (by kernel_rfl) (by kernel_rfl) (by kernel_rfl) (fun _ _ _ h => h) (Or.inl ⟨by rfl, by intro w hSw; clear hSw; go_simp; (try with_reducible rfl)⟩) (by assumption) ?_
  try simp only [Act.put, List.setIfInBounds_toArray, List.set_cons_zero, List.set_cons_succ]
  refine wpAnyH_take (i := 3) (oi := { dst := some 10, op := _, type := _, pos := _, after := _, guard := _ }) (v := .slice (some ⟨g, 0, none⟩) n cap) rfl (by kernel_rfl) (by kernel_rfl) (by kernel_rfl) (fun _ _ _ h => h) (Or.inl ⟨by rfl, by intro W hSw; have c16 := Rp.last hSw.1; clear hSw; go_simp; (try with_reducible rfl)⟩) (by assumption) ?_
  try simp only [Act.put, List.setIfInBounds_toArray, List.set_cons_zero, List.set_cons_succ]
  refine wpAnyH_take (i := 4) (oi := { dst := some 11, op := _, type := _, pos := _, after := _, guard := _ }) (v := .agg (mk 4 t)) rfl (by kernel_rfl) (by kernel_rfl) (by kernel_rfl) (fun _ _ _ h => h) (Or.inl ⟨by rfl, fun _ q => execU4 q.2.1 rfl rfl⟩) (by assumption) ?_
  try simp only [Act.put, List.setIfInBounds_toArray, List.set_cons_zero, List.set_cons_succ]
  refine wpAnyH_ready (rs := [5, 9]) (by kernel_rfl) (by simp) ?_
  refine AllReadyH.cons rfl (fun K hK => ?_) ?_
  · rw [if_pos (by rfl)]
    refine wp_buildT _ rfl rfl ?_
    have CS : CAt (x0.alloc (.cells (mk 4 t) 49)) x0.heap.size 4 t := (Blk.new x0 4 t 49).at
    have K1 := K1.alloc (.cells (mk 4 t) 49)
    have T1 := T1.alloc (.cells (mk 4 t) 49)
    have K2 := K2.alloc (.cells (mk 4 t) 49)
    have CM := CM.alloc (.cells (mk 4 t) 49)
    have HB : Hid (Below w.heap.size w (x0.alloc (.cells (mk 4 t) 49))) := HB.out.alloc HB.out.size _
    clear hHeld
    generalize x0.alloc (.cells (mk 4 t) 49) = x1 at *
    generalize x0.heap.size = g2 at *
    refine hK.out _ _ ⟨K1, T1, CM⟩ (fun hHeld => ?_)
    clear hK K
    try simp only [Act.put, List.setIfInBounds_toArray, List.set_cons_zero, List.set_cons_succ]
    refine wpAnyH_ready (rs := [6, 9]) (by kernel_rfl) (by simp) ?_
    refine AllReadyH.cons rfl (fun K hK => ?_) ?_
    · rw [if_pos (by rfl)]
      refine wp_buildSS _ _ rfl rfl rfl ?_
      have OB : Oth (x1.alloc (.cells #[.slice (some ⟨g, 0, none⟩) n cap, .slice (some ⟨g2, 0, none⟩) 1 1] 32)) x1.heap.size #[.slice (some ⟨g, 0, none⟩) n cap, .slice (some ⟨g2, 0, none⟩) 1 1] 32 := heap_alloc_new _ _
      have K1 := K1.alloc (.cells #[.slice (some ⟨g, 0, none⟩) n cap, .slice (some ⟨g2, 0, none⟩) 1 1] 32)
      have T1 := T1.alloc (.cells #[.slice (some ⟨g, 0, none⟩) n cap, .slice (some ⟨g2, 0, none⟩) 1 1] 32)
      have K2 := K2.alloc (.cells #[.slice (some ⟨g, 0, none⟩) n cap, .slice (some ⟨g2, 0, none⟩) 1 1] 32)
      have CM := CM.alloc (.cells #[.slice (some ⟨g, 0, none⟩) n cap, .slice (some ⟨g2, 0, none⟩) 1 1] 32)
      have CS := CS.alloc (.cells #[.slice (some ⟨g, 0, none⟩) n cap, .slice (some ⟨g2, 0, none⟩) 1 1] 32)
      have HB : Hid (Below w.heap.size w (x1.alloc (.cells #[.slice (some ⟨g, 0, none⟩) n cap, .slice (some ⟨g2, 0, none⟩) 1 1] 32))) := HB.out.alloc HB.out.size _
      clear hHeld
      generalize x1.alloc (.cells #[.slice (some ⟨g, 0, none⟩) n cap, .slice (some ⟨g2, 0, none⟩) 1 1] 32) = x2 at *
      generalize x1.heap.size = b6 at *
      refine hK.out _ _ ⟨K1, T1, CM⟩ (fun hHeld => ?_)
      clear hK K
      try simp only [Act.put, List.setIfInBounds_toArray, List.set_cons_zero, List.set_cons_succ]
      refine wpAnyH_ready (rs := [7, 9]) (by kernel_rfl) (by simp) ?_
      refine AllReadyH.cons rfl (fun K hK => ?_) ?_
      · go_simp
        refine (concatT_any b6 g cap g2 1 n h t _ ((OB.cell 0).trans rfl) ((OB.cell 1).trans rfl) CM CS hn).mono ?_
        rintro e x3 ⟨g7, c7, rfl, ho, hb⟩
        have hs7 : w.heap.size + 2 < x2.heap.size := K2.lt
        have K1 := K1.below hb K1.lt
        have T1 := T1.below hb T1.lt
        have K2 := K2.below hb K2.lt
        have CM := CM.below hb
        have CS := CS.below hb
        have OB := OB.below hb OB.lt
        have HB : Hid (Below w.heap.size w x3) := HB.out.trans (hb.mono HB.out.size)
        have OC : OwnT x3 (w.heap.size + 3) (.slice (some ⟨g7, 0, none⟩) (n + 1) c7) (n + 1) (addH h n t) := ho.wide (by omega)
        clear hb ho hHeld hs7 OB CS
        go_wp2_with fail
        refine hK.out _ _ ⟨K1, T1, CM⟩ (fun hHeld => ?_)
        clear hK K
        try simp only [Act.put, List.setIfInBounds_toArray, List.set_cons_zero, List.set_cons_succ]
        refine wpAnyH_take (i := 8) (oi := { dst := some 15, op := _, type := _, pos := _, after := _, guard := _ }) (v := .agg (rpl f (.slice (some ⟨g7, 0, none⟩) (n + 1) c7))) rfl (by kernel_rfl) (by kernel_rfl) (by kernel_rfl) (fun _ _ _ h => h) (Or.inl ⟨by rfl, fun _ _ => exec_buildRp _ _ rfl rfl rfl⟩) (by assumption) ?_
        try simp only [Act.put, List.setIfInBounds_toArray, List.set_cons_zero, List.set_cons_succ]
        refine wpAnyH_ready (rs := [9]) (by kernel_rfl) (by simp) ?_
        refine AllReadyH.cons rfl (fun K hK => ?_) AllReadyH.nil
        rw [if_pos (by rfl)]
        refine wp_allocRp rfl ?_
        have K8 := Rp.new x3 (fun _ => 0) (.slice none 0 0) 34
        have H8 : Hid (w.heap.size + 2 < x3.heap.size) := K2.lt
        have hOC := fun k e => (OC.lt k e).2
        have H8C : Hid (∀ k, (Value.slice (some ⟨g7, 0, none⟩) (n + 1) c7).ownBlock = some k → k ≠ x3.heap.size) := fun k e => by have := hOC k e; omega
        clear hOC
        have K1 := K1.alloc (.cells (rpl (fun _ => 0) (.slice none 0 0)) 34)
        have T1 := T1.alloc (.cells (rpl (fun _ => 0) (.slice none 0 0)) 34)
        have K2 := K2.alloc (.cells (rpl (fun _ => 0) (.slice none 0 0)) 34)
        have CM := CM.alloc (.cells (rpl (fun _ => 0) (.slice none 0 0)) 34)
        have OC := OC.alloc (.cells (rpl (fun _ => 0) (.slice none 0 0)) 34)
        have HB : Hid (Below w.heap.size w (x3.alloc (.cells (rpl (fun _ => 0) (.slice none 0 0)) 34))) := HB.out.alloc HB.out.size _
        clear hHeld
        generalize x3.alloc (.cells (rpl (fun _ => 0) (.slice none 0 0)) 34) = x4 at *
        generalize x3.heap.size = b8 at *
        refine hK.out _ _ ⟨K1, T1, CM⟩ (fun hHeld => ?_)
        clear hK K
        try simp only [Act.put, List.setIfInBounds_toArray, List.set_cons_zero, List.set_cons_succ]
        refine wpAnyH_ready (rs := [10]) (by kernel_rfl) (by simp) ?_
        refine AllReadyH.cons rfl (fun K hK => ?_) AllReadyH.nil
        have st1 := run_store_rp (g := f) (a := some ⟨g7, 0, none⟩) (n := n + 1) (c := c7) K8
        have ms1 : (rpl f (.slice (some ⟨g7, 0, none⟩) (n + 1) c7)).size = 17 := rpl_size _ _
        go_simp
        clear st1 ms1
        have hg8 := grown_rp K8 (rpl f (.slice (some ⟨g7, 0, none⟩) (n + 1) c7))
        have OC : OwnT (x4.setRow b8 (rpl f (.slice (some ⟨g7, 0, none⟩) (n + 1) c7))) (w.heap.size + 3) (.slice (some ⟨g7, 0, none⟩) (n + 1) c7) (n + 1) (addH h n t) := OC.kept hg8 (fun q => by have := H8C.out _ q; exact this rfl)
        have K1 := K1.rowOther b8 (rpl f (.slice (some ⟨g7, 0, none⟩) (n + 1) c7)) (by have := H8.out; omega)
        have T1 := T1.rowOther b8 (rpl f (.slice (some ⟨g7, 0, none⟩) (n + 1) c7)) (by have := H8.out; omega)
        have K2 := K2.rowOther b8 (rpl f (.slice (some ⟨g7, 0, none⟩) (n + 1) c7)) (by have := H8.out; omega)
        have CM := CM.grown hg8 (fun q => by have q : g = b8 := Option.some.inj q; have := H8.out; omega)
        have HB : Hid (Below w.heap.size w (x4.setRow b8 (rpl f (.slice (some ⟨g7, 0, none⟩) (n + 1) c7)))) := below_setRow HB.out (by have := H8.out; omega) _
        have K8 := K8.row f (.slice (some ⟨g7, 0, none⟩) (n + 1) c7)
        clear hHeld hg8
        generalize x4.setRow b8 (rpl f (.slice (some ⟨g7, 0, none⟩) (n + 1) c7)) = x5 at *
        refine hK.out _ _ ⟨K1, T1, CM⟩ (fun hHeld => ?_)
        clear hK K
        try simp only [Act.put, List.setIfInBounds_toArray, List.set_cons_zero, List.set_cons_succ]
        refine wpAnyH_done (by kernel_rfl) ?_ _
        clear hHeld
        go_wp2_with ((with_reducible show wpList _ _ _ (Oper.mk _ (Op.load 34 _) _ _ _ _ :: _) _ _); refine loadRp (K8) rfl rfl rfl ?_)
        by_cases hA : RpOk f (addH h n t) (n + 1)
        · have hA2 := add_iff.2 hA
          obtain ⟨y1, y2⟩ := ad_yes hA2
          have HY : Hid (adF f h n t = f ∧ adN f h n t = n + 1 ∧ decide (addOk f h n t) = true) := ⟨y1, y2, decide_eq_true hA2⟩
          have h41 := hA.2.1
          have hcon := implIs_any f _ (n + 1) (addH h n t) x5 OC.krow (by omega)
          rw [rplO_yes hA] at hcon
          refine hcon.mono ?_
          rintro e y1 ⟨rfl, hb⟩
          have K2 := K2.below hb K2.lt
          have K8 := K8.below hb K8.lt
          have OC := OC.below hb
          have HB : Hid (Below w.heap.size w y1) := HB.out.trans (hb.mono HB.out.size)
          clear hb hcon
          have OD : OwnT (y1.setRow (w.heap.size + 2) (rpl f (.slice (some ⟨g7, 0, none⟩) (n + 1) c7))) (w.heap.size + 3) (.slice (some ⟨g7, 0, none⟩) (n + 1) c7) (n + 1) (addH h n t) := OC.kept (grown_rp K2 _) (fun q => by have := (OC.lt _ q).1; omega)
          have HB2 : Hid (Below w.heap.size w (y1.setRow (w.heap.size + 2) (rpl f (.slice (some ⟨g7, 0, none⟩) (n + 1) c7)))) := below_setRow HB.out (by omega) _
          go_wp2_with (first | ((with_reducible show wpList _ _ _ (Oper.mk _ (Op.load 34 _) _ _ _ _ :: _) _ _); refine loadRp (K8) rfl rfl rfl ?_) | ((with_reducible show wpList _ _ _ (Oper.mk _ (Op.store 34 _ _) _ _ _ _ :: _) _ _); refine storeRp (K2) (by rfl) rfl rfl rfl rfl ?_))
          try simp only [Exit.inBlock, Exit.then]
          refine retRpT (K2.row _ _) rfl rfl rfl ?_
          rw [HY.out.1, HY.out.2.1, HY.out.2.2]
          exact ⟨_, _, rfl, OD.wide (by omega), HB2.out⟩
        · have hA2 : ¬ addOk f h n t := fun q => hA (add_iff.1 q)
          obtain ⟨y1, y2⟩ := ad_no hA2
          have HY : Hid (adF f h n t = (fun _ => 0) ∧ adN f h n t = 0 ∧ decide (addOk f h n t) = false) := ⟨y1, y2, decide_eq_false hA2⟩
          have hcon : Calls Try.prog 18 #[.agg (rpl f (.slice (some ⟨g7, 0, none⟩) (n + 1) c7))] x5 fun e w' => e = .returned (.bool false) ∧ Below x5.heap.size x5 w' := by
            by_cases h41 : n + 1 ≤ 40
            · have := implIs_any f _ (n + 1) (addH h n t) x5 OC.krow (by omega)
              rwa [rplO_no hA] at this
            · exact implIs_over f _ (n + 1) c7 x5 (by omega)
          refine hcon.mono ?_
          rintro e y1 ⟨rfl, hb⟩
          have K2 := K2.below hb K2.lt
          have HB : Hid (Below w.heap.size w y1) := HB.out.trans (hb.mono HB.out.size)
          clear hb hcon
          have HB2 : Hid (Below w.heap.size w (y1.setRow (w.heap.size + 2) (rpl (fun _ => 0) (.slice none 0 0)))) := below_setRow HB.out (by omega) _
          go_wp2_with ((with_reducible show wpList _ _ _ (Oper.mk _ (Op.store 34 _ _) _ _ _ _ :: _) _ _); refine storeRp (K2) (by rfl) rfl rfl rfl rfl ?_)
          try simp only [Exit.inBlock, Exit.then]
          refine retRpT (K2.row _ _) rfl rfl rfl ?_
          rw [HY.out.1, HY.out.2.1, HY.out.2.2]
          exact ⟨none, 0, rfl, OwnT.none _ _ _, HB2.out⟩
      refine AllReadyH.cons rfl (fun K hK => ?_) AllReadyH.nil
      rw [if_pos (by rfl)]
      refine wp_allocRp rfl ?_
      have K8 := Rp.new x2 (fun _ => 0) (.slice none 0 0) 34
      have H8 : Hid (w.heap.size + 2 < x2.heap.size) := K2.lt
      have K1 := K1.alloc (.cells (rpl (fun _ => 0) (.slice none 0 0)) 34)
      have T1 := T1.alloc (.cells (rpl (fun _ => 0) (.slice none 0 0)) 34)
      have K2 := K2.alloc (.cells (rpl (fun _ => 0) (.slice none 0 0)) 34)
      have CM := CM.alloc (.cells (rpl (fun _ => 0) (.slice none 0 0)) 34)
      have CS := CS.alloc (.cells (rpl (fun _ => 0) (.slice none 0 0)) 34)
      have OB := OB.alloc (.cells (rpl (fun _ => 0) (.slice none 0 0)) 34)
      have HB : Hid (Below w.heap.size w (x2.alloc (.cells (rpl (fun _ => 0) (.slice none 0 0)) 34))) := HB.out.alloc HB.out.size _
      clear hHeld
      generalize x2.alloc (.cells (rpl (fun _ => 0) (.slice none 0 0)) 34) = x3 at *
      generalize x2.heap.size = b8 at *
      refine hK.out _ _ ⟨K1, T1, CM⟩ (fun hHeld => ?_)
      clear hK K
      try simp only [Act.put, List.setIfInBounds_toArray, List.set_cons_zero, List.set_cons_succ]
      refine wpAnyH_ready (rs := [7]) (by kernel_rfl) (by simp) ?_
      refine AllReadyH.cons rfl (fun K hK => ?_) AllReadyH.nil
      go_simp
      refine (concatT_any b6 g cap g2 1 n h t _ ((OB.cell 0).trans rfl) ((OB.cell 1).trans rfl) CM CS hn).mono ?_
      rintro e x4 ⟨g7, c7, rfl, ho, hb⟩
      have hs8 := K8.lt
      have hs7 : w.heap.size + 2 < x3.heap.size := K2.lt
      have K1 := K1.below hb K1.lt
      have T1 := T1.below hb T1.lt
      have K2 := K2.below hb K2.lt
      have CM := CM.below hb
      have CS := CS.below hb
      have OB := OB.below hb OB.lt
      have K8 := K8.below hb K8.lt
      have HB : Hid (Below w.heap.size w x4) := HB.out.trans (hb.mono HB.out.size)
      have OC : OwnT x4 (w.heap.size + 3) (.slice (some ⟨g7, 0, none⟩) (n + 1) c7) (n + 1) (addH h n t) := ho.wide (by omega)
      have H8C : Hid (∀ k, (Value.slice (some ⟨g7, 0, none⟩) (n + 1) c7).ownBlock = some k → k ≠ b8) := fun k e => by have := (ho.lt k e).1; omega
      clear hs8 hb ho hHeld hs7 OB CS
      go_wp2_with fail
      refine hK.out _ _ ⟨K1, T1, CM⟩ (fun hHeld => ?_)
      clear hK K
      try simp only [Act.put, List.setIfInBounds_toArray, List.set_cons_zero, List.set_cons_succ]
      refine wpAnyH_take (i := 8) (oi := { dst := some 15, op := _, type := _, pos := _, after := _, guard := _ }) (v := .agg (rpl f (.slice (some ⟨g7, 0, none⟩) (n + 1) c7))) rfl (by kernel_rfl) (by kernel_rfl) (by kernel_rfl) (fun _ _ _ h => h) (Or.inl ⟨by rfl, fun _ _ => exec_buildRp _ _ rfl rfl rfl⟩) (by assumption) ?_
      try simp only [Act.put, List.setIfInBounds_toArray, List.set_cons_zero, List.set_cons_succ]
      refine wpAnyH_ready (rs := [10]) (by kernel_rfl) (by simp) ?_
      refine AllReadyH.cons rfl (fun K hK => ?_) AllReadyH.nil
      have st1 := run_store_rp (g := f) (a := some ⟨g7, 0, none⟩) (n := n + 1) (c := c7) K8
      have ms1 : (rpl f (.slice (some ⟨g7, 0, none⟩) (n + 1) c7)).size = 17 := rpl_size _ _
      go_simp
      clear st1 ms1
      have hg8 := grown_rp K8 (rpl f (.slice (some ⟨g7, 0, none⟩) (n + 1) c7))
      have OC : OwnT (x4.setRow b8 (rpl f (.slice (some ⟨g7, 0, none⟩) (n + 1) c7))) (w.heap.size + 3) (.slice (some ⟨g7, 0, none⟩) (n + 1) c7) (n + 1) (addH h n t) := OC.kept hg8 (fun q => by have := H8C.out _ q; exact this rfl)
      have K1 := K1.rowOther b8 (rpl f (.slice (some ⟨g7, 0, none⟩) (n + 1) c7)) (by have := H8.out; omega)
      have T1 := T1.rowOther b8 (rpl f (.slice (some ⟨g7, 0, none⟩) (n + 1) c7)) (by have := H8.out; omega)
      have K2 := K2.rowOther b8 (rpl f (.slice (some ⟨g7, 0, none⟩) (n + 1) c7)) (by have := H8.out; omega)
      have CM := CM.grown hg8 (fun q => by have q : g = b8 := Option.some.inj q; have := H8.out; omega)
      have HB : Hid (Below w.heap.size w (x4.setRow b8 (rpl f (.slice (some ⟨g7, 0, none⟩) (n + 1) c7)))) := below_setRow HB.out (by have := H8.out; omega) _
      have K8 := K8.row f (.slice (some ⟨g7, 0, none⟩) (n + 1) c7)
      clear hHeld hg8
      generalize x4.setRow b8 (rpl f (.slice (some ⟨g7, 0, none⟩) (n + 1) c7)) = x5 at *
      refine hK.out _ _ ⟨K1, T1, CM⟩ (fun hHeld => ?_)
      clear hK K
      try simp only [Act.put, List.setIfInBounds_toArray, List.set_cons_zero, List.set_cons_succ]
      refine wpAnyH_done (by kernel_rfl) ?_ _
      clear hHeld
      go_wp2_with ((with_reducible show wpList _ _ _ (Oper.mk _ (Op.load 34 _) _ _ _ _ :: _) _ _); refine loadRp (K8) rfl rfl rfl ?_)
      by_cases hA : RpOk f (addH h n t) (n + 1)
      · have hA2 := add_iff.2 hA
        obtain ⟨y1, y2⟩ := ad_yes hA2
        have HY : Hid (adF f h n t = f ∧ adN f h n t = n + 1 ∧ decide (addOk f h n t) = true) := ⟨y1, y2, decide_eq_true hA2⟩
        have h41 := hA.2.1
        have hcon := implIs_any f _ (n + 1) (addH h n t) x5 OC.krow (by omega)
        rw [rplO_yes hA] at hcon
        refine hcon.mono ?_
        rintro e y1 ⟨rfl, hb⟩
        have K2 := K2.below hb K2.lt
        have K8 := K8.below hb K8.lt
        have OC := OC.below hb
        have HB : Hid (Below w.heap.size w y1) := HB.out.trans (hb.mono HB.out.size)
        clear hb hcon
        have OD : OwnT (y1.setRow (w.heap.size + 2) (rpl f (.slice (some ⟨g7, 0, none⟩) (n + 1) c7))) (w.heap.size + 3) (.slice (some ⟨g7, 0, none⟩) (n + 1) c7) (n + 1) (addH h n t) := OC.kept (grown_rp K2 _) (fun q => by have := (OC.lt _ q).1; omega)
        have HB2 : Hid (Below w.heap.size w (y1.setRow (w.heap.size + 2) (rpl f (.slice (some ⟨g7, 0, none⟩) (n + 1) c7)))) := below_setRow HB.out (by omega) _
        go_wp2_with (first | ((with_reducible show wpList _ _ _ (Oper.mk _ (Op.load 34 _) _ _ _ _ :: _) _ _); refine loadRp (K8) rfl rfl rfl ?_) | ((with_reducible show wpList _ _ _ (Oper.mk _ (Op.store 34 _ _) _ _ _ _ :: _) _ _); refine storeRp (K2) (by rfl) rfl rfl rfl rfl ?_))
        try simp only [Exit.inBlock, Exit.then]
        refine retRpT (K2.row _ _) rfl rfl rfl ?_
        rw [HY.out.1, HY.out.2.1, HY.out.2.2]
        exact ⟨_, _, rfl, OD.wide (by omega), HB2.out⟩
      · have hA2 : ¬ addOk f h n t := fun q => hA (add_iff.1 q)
        obtain ⟨y1, y2⟩ := ad_no hA2
        have HY : Hid (adF f h n t = (fun _ => 0) ∧ adN f h n t = 0 ∧ decide (addOk f h n t) = false) := ⟨y1, y2, decide_eq_false hA2⟩
        have hcon : Calls Try.prog 18 #[.agg (rpl f (.slice (some ⟨g7, 0, none⟩) (n + 1) c7))] x5 fun e w' => e = .returned (.bool false) ∧ Below x5.heap.size x5 w' := by
          by_cases h41 : n + 1 ≤ 40
          · have := implIs_any f _ (n + 1) (addH h n t) x5 OC.krow (by omega)
            rwa [rplO_no hA] at this
          · exact implIs_over f _ (n + 1) c7 x5 (by omega)
        refine hcon.mono ?_
        rintro e y1 ⟨rfl, hb⟩
        have K2 := K2.below hb K2.lt
        have HB : Hid (Below w.heap.size w y1) := HB.out.trans (hb.mono HB.out.size)
        clear hb hcon
        have HB2 : Hid (Below w.heap.size w (y1.setRow (w.heap.size + 2) (rpl (fun _ => 0) (.slice none 0 0)))) := below_setRow HB.out (by omega) _
        go_wp2_with ((with_reducible show wpList _ _ _ (Oper.mk _ (Op.store 34 _ _) _ _ _ _ :: _) _ _); refine storeRp (K2) (by rfl) rfl rfl rfl rfl ?_)
        try simp only [Exit.inBlock, Exit.then]
        refine retRpT (K2.row _ _) rfl rfl rfl ?_
        rw [HY.out.1, HY.out.2.1, HY.out.2.2]
        exact ⟨none, 0, rfl, OwnT.none _ _ _, HB2.out⟩
    refine AllReadyH.cons rfl (fun K hK => ?_) AllReadyH.nil
    rw [if_pos (by rfl)]
    refine wp_allocRp rfl ?_
    have K8 := Rp.new x1 (fun _ => 0) (.slice none 0 0) 34
    have H8 : Hid (w.heap.size + 2 < x1.heap.size) := K2.lt
    have K1 := K1.alloc (.cells (rpl (fun _ => 0) (.slice none 0 0)) 34)
    have T1 := T1.alloc (.cells (rpl (fun _ => 0) (.slice none 0 0)) 34)
    have K2 := K2.alloc (.cells (rpl (fun _ => 0) (.slice none 0 0)) 34)
    have CM := CM.alloc (.cells (rpl (fun _ => 0) (.slice none 0 0)) 34)
    have CS := CS.alloc (.cells (rpl (fun _ => 0) (.slice none 0 0)) 34)
    have HB : Hid (Below w.heap.size w (x1.alloc (.cells (rpl (fun _ => 0) (.slice none 0 0)) 34))) := HB.out.alloc HB.out.size _
    clear hHeld
    generalize x1.alloc (.cells (rpl (fun _ => 0) (.slice none 0 0)) 34) = x2 at *
    generalize x1.heap.size = b8 at *
    refine hK.out _ _ ⟨K1, T1, CM⟩ (fun hHeld => ?_)
    clear hK K
    try simp only [Act.put, List.setIfInBounds_toArray, List.set_cons_zero, List.set_cons_succ]
    refine wpAnyH_ready (rs := [6]) (by kernel_rfl) (by simp) ?_
    refine AllReadyH.cons rfl (fun K hK => ?_) AllReadyH.nil
    rw [if_pos (by rfl)]
    refine wp_buildSS _ _ rfl rfl rfl ?_
    have OB : Oth (x2.alloc (.cells #[.slice (some ⟨g, 0, none⟩) n cap, .slice (some ⟨g2, 0, none⟩) 1 1] 32)) x2.heap.size #[.slice (some ⟨g, 0, none⟩) n cap, .slice (some ⟨g2, 0, none⟩) 1 1] 32 := heap_alloc_new _ _
    have K1 := K1.alloc (.cells #[.slice (some ⟨g, 0, none⟩) n cap, .slice (some ⟨g2, 0, none⟩) 1 1] 32)
    have T1 := T1.alloc (.cells #[.slice (some ⟨g, 0, none⟩) n cap, .slice (some ⟨g2, 0, none⟩) 1 1] 32)
    have K2 := K2.alloc (.cells #[.slice (some ⟨g, 0, none⟩) n cap, .slice (some ⟨g2, 0, none⟩) 1 1] 32)
    have CM := CM.alloc (.cells #[.slice (some ⟨g, 0, none⟩) n cap, .slice (some ⟨g2, 0, none⟩) 1 1] 32)
    have CS := CS.alloc (.cells #[.slice (some ⟨g, 0, none⟩) n cap, .slice (some ⟨g2, 0, none⟩) 1 1] 32)
    have K8 := K8.alloc (.cells #[.slice (some ⟨g, 0, none⟩) n cap, .slice (some ⟨g2, 0, none⟩) 1 1] 32)
    have HB : Hid (Below w.heap.size w (x2.alloc (.cells #[.slice (some ⟨g, 0, none⟩) n cap, .slice (some ⟨g2, 0, none⟩) 1 1] 32))) := HB.out.alloc HB.out.size _
    clear hHeld
    generalize x2.alloc (.cells #[.slice (some ⟨g, 0, none⟩) n cap, .slice (some ⟨g2, 0, none⟩) 1 1] 32) = x3 at *
    generalize x2.heap.size = b6 at *
    refine hK.out _ _ ⟨K1, T1, CM⟩ (fun hHeld => ?_)
    clear hK K
    try simp only [Act.put, List.setIfInBounds_toArray, List.set_cons_zero, List.set_cons_succ]
    refine wpAnyH_ready (rs := [7]) (by kernel_rfl) (by simp) ?_
    refine AllReadyH.cons rfl (fun K hK => ?_) AllReadyH.nil
    go_simp
    refine (concatT_any b6 g cap g2 1 n h t _ ((OB.cell 0).trans rfl) ((OB.cell 1).trans rfl) CM CS hn).mono ?_
    rintro e x4 ⟨g7, c7, rfl, ho, hb⟩
    have hs8 := K8.lt
    have hs7 : w.heap.size + 2 < x3.heap.size := K2.lt
    have K1 := K1.below hb K1.lt
    have T1 := T1.below hb T1.lt
    have K2 := K2.below hb K2.lt
    have CM := CM.below hb
    have CS := CS.below hb
    have K8 := K8.below hb K8.lt
    have OB := OB.below hb OB.lt
    have HB : Hid (Below w.heap.size w x4) := HB.out.trans (hb.mono HB.out.size)
    have OC : OwnT x4 (w.heap.size + 3) (.slice (some ⟨g7, 0, none⟩) (n + 1) c7) (n + 1) (addH h n t) := ho.wide (by omega)
    have H8C : Hid (∀ k, (Value.slice (some ⟨g7, 0, none⟩) (n + 1) c7).ownBlock = some k → k ≠ b8) := fun k e => by have := (ho.lt k e).1; omega
    clear hs8 hb ho hHeld hs7 OB CS
    go_wp2_with fail
    refine hK.out _ _ ⟨K1, T1, CM⟩ (fun hHeld => ?_)
    clear hK K
    try simp only [Act.put, List.setIfInBounds_toArray, List.set_cons_zero, List.set_cons_succ]
    refine wpAnyH_take (i := 8) (oi := { dst := some 15, op := _, type := _, pos := _, after := _, guard := _ }) (v := .agg (rpl f (.slice (some ⟨g7, 0, none⟩) (n + 1) c7))) rfl (by kernel_rfl) (by kernel_rfl) (by kernel_rfl) (fun _ _ _ h => h) (Or.inl ⟨by rfl, fun _ _ => exec_buildRp _ _ rfl rfl rfl⟩) (by assumption) ?_
    try simp only [Act.put, List.setIfInBounds_toArray, List.set_cons_zero, List.set_cons_succ]
    refine wpAnyH_ready (rs := [10]) (by kernel_rfl) (by simp) ?_
    refine AllReadyH.cons rfl (fun K hK => ?_) AllReadyH.nil
    have st1 := run_store_rp (g := f) (a := some ⟨g7, 0, none⟩) (n := n + 1) (c := c7) K8
    have ms1 : (rpl f (.slice (some ⟨g7, 0, none⟩) (n + 1) c7)).size = 17 := rpl_size _ _
    go_simp
    clear st1 ms1
    have hg8 := grown_rp K8 (rpl f (.slice (some ⟨g7, 0, none⟩) (n + 1) c7))
    have OC : OwnT (x4.setRow b8 (rpl f (.slice (some ⟨g7, 0, none⟩) (n + 1) c7))) (w.heap.size + 3) (.slice (some ⟨g7, 0, none⟩) (n + 1) c7) (n + 1) (addH h n t) := OC.kept hg8 (fun q => by have := H8C.out _ q; exact this rfl)
    have K1 := K1.rowOther b8 (rpl f (.slice (some ⟨g7, 0, none⟩) (n + 1) c7)) (by have := H8.out; omega)
    have T1 := T1.rowOther b8 (rpl f (.slice (some ⟨g7, 0, none⟩) (n + 1) c7)) (by have := H8.out; omega)
    have K2 := K2.rowOther b8 (rpl f (.slice (some ⟨g7, 0, none⟩) (n + 1) c7)) (by have := H8.out; omega)
    have CM := CM.grown hg8 (fun q => by have q : g = b8 := Option.some.inj q; have := H8.out; omega)
    have HB : Hid (Below w.heap.size w (x4.setRow b8 (rpl f (.slice (some ⟨g7, 0, none⟩) (n + 1) c7)))) := below_setRow HB.out (by have := H8.out; omega) _
    have K8 := K8.row f (.slice (some ⟨g7, 0, none⟩) (n + 1) c7)
    clear hHeld hg8
    generalize x4.setRow b8 (rpl f (.slice (some ⟨g7, 0, none⟩) (n + 1) c7)) = x5 at *
    refine hK.out _ _ ⟨K1, T1, CM⟩ (fun hHeld => ?_)
    clear hK K
    try simp only [Act.put, List.setIfInBounds_toArray, List.set_cons_zero, List.set_cons_succ]
    refine wpAnyH_done (by kernel_rfl) ?_ _
    clear hHeld
    go_wp2_with ((with_reducible show wpList _ _ _ (Oper.mk _ (Op.load 34 _) _ _ _ _ :: _) _ _); refine loadRp (K8) rfl rfl rfl ?_)
    by_cases hA : RpOk f (addH h n t) (n + 1)
    · have hA2 := add_iff.2 hA
      obtain ⟨y1, y2⟩ := ad_yes hA2
      have HY : Hid (adF f h n t = f ∧ adN f h n t = n + 1 ∧ decide (addOk f h n t) = true) := ⟨y1, y2, decide_eq_true hA2⟩
      have h41 := hA.2.1
      have hcon := implIs_any f _ (n + 1) (addH h n t) x5 OC.krow (by omega)
      rw [rplO_yes hA] at hcon
      refine hcon.mono ?_
      rintro e y1 ⟨rfl, hb⟩
      have K2 := K2.below hb K2.lt
      have K8 := K8.below hb K8.lt
      have OC := OC.below hb
      have HB : Hid (Below w.heap.size w y1) := HB.out.trans (hb.mono HB.out.size)
      clear hb hcon
      have OD : OwnT (y1.setRow (w.heap.size + 2) (rpl f (.slice (some ⟨g7, 0, none⟩) (n + 1) c7))) (w.heap.size + 3) (.slice (some ⟨g7, 0, none⟩) (n + 1) c7) (n + 1) (addH h n t) := OC.kept (grown_rp K2 _) (fun q => by have := (OC.lt _ q).1; omega)
      have HB2 : Hid (Below w.heap.size w (y1.setRow (w.heap.size + 2) (rpl f (.slice (some ⟨g7, 0, none⟩) (n + 1) c7)))) := below_setRow HB.out (by omega) _
      go_wp2_with (first | ((with_reducible show wpList _ _ _ (Oper.mk _ (Op.load 34 _) _ _ _ _ :: _) _ _); refine loadRp (K8) rfl rfl rfl ?_) | ((with_reducible show wpList _ _ _ (Oper.mk _ (Op.store 34 _ _) _ _ _ _ :: _) _ _); refine storeRp (K2) (by rfl) rfl rfl rfl rfl ?_))
      try simp only [Exit.inBlock, Exit.then]
      refine retRpT (K2.row _ _) rfl rfl rfl ?_
      rw [HY.out.1, HY.out.2.1, HY.out.2.2]
      exact ⟨_, _, rfl, OD.wide (by omega), HB2.out⟩
    · have hA2 : ¬ addOk f h n t := fun q => hA (add_iff.1 q)
      obtain ⟨y1, y2⟩ := ad_no hA2
      have HY : Hid (adF f h n t = (fun _ => 0) ∧ adN f h n t = 0 ∧ decide (addOk f h n t) = false) := ⟨y1, y2, decide_eq_false hA2⟩
      have hcon : Calls Try.prog 18 #[.agg (rpl f (.slice (some ⟨g7, 0, none⟩) (n + 1) c7))] x5 fun e w' => e = .returned (.bool false) ∧ Below x5.heap.size x5 w' := by
        by_cases h41 : n + 1 ≤ 40
        · have := implIs_any f _ (n + 1) (addH h n t) x5 OC.krow (by omega)
          rwa [rplO_no hA] at this
        · exact implIs_over f _ (n + 1) c7 x5 (by omega)
      refine hcon.mono ?_
      rintro e y1 ⟨rfl, hb⟩
      have K2 := K2.below hb K2.lt
      have HB : Hid (Below w.heap.size w y1) := HB.out.trans (hb.mono HB.out.size)
      clear hb hcon
      have HB2 : Hid (Below w.heap.size w (y1.setRow (w.heap.size + 2) (rpl (fun _ => 0) (.slice none 0 0)))) := below_setRow HB.out (by omega) _
      go_wp2_with ((with_reducible show wpList _ _ _ (Oper.mk _ (Op.store 34 _ _) _ _ _ _ :: _) _ _); refine storeRp (K2) (by rfl) rfl rfl rfl rfl ?_)
      try simp only [Exit.inBlock, Exit.then]
      refine retRpT (K2.row _ _) rfl rfl rfl ?_
      rw [HY.out.1, HY.out.2.1, HY.out.2.2]
      exact ⟨none, 0, rfl, OwnT.none _ _ _, HB2.out⟩
  refine AllReadyH.cons rfl (fun K hK => ?_) AllReadyH.nil
  rw [if_pos (by rfl)]
  refine wp_allocRp rfl ?_
  have K8 := Rp.new x0 (fun _ => 0) (.slice none 0 0) 34
  have H8 : Hid (w.heap.size + 2 < x0.heap.size) := K2.lt
  have K1 := K1.alloc (.cells (rpl (fun _ => 0) (.slice none 0 0)) 34)
  have T1 := T1.alloc (.cells (rpl (fun _ => 0) (.slice none 0 0)) 34)
  have K2 := K2.alloc (.cells (rpl (fun _ => 0) (.slice none 0 0)) 34)
  have CM := CM.alloc (.cells (rpl (fun _ => 0) (.slice none 0 0)) 34)
  have HB : Hid (Below w.heap.size w (x0.alloc (.cells (rpl (fun _ => 0) (.slice none 0 0)) 34))) := HB.out.alloc HB.out.size _
  clear hHeld
  generalize x0.alloc (.cells (rpl (fun _ => 0) (.slice none 0 0)) 34) = x1 at *
  generalize x0.heap.size = b8 at *
  refine hK.out _ _ ⟨K1, T1, CM⟩ (fun hHeld => ?_)
  clear hK K
  try simp only [Act.put, List.setIfInBounds_toArray, List.set_cons_zero, List.set_cons_succ]
  refine wpAnyH_ready (rs := [5]) (by kernel_rfl) (by simp) ?_
  refine AllReadyH.cons rfl (fun K hK => ?_) AllReadyH.nil
  rw [if_pos (by rfl)]
  refine wp_buildT _ rfl rfl ?_
  have CS : CAt (x1.alloc (.cells (mk 4 t) 49)) x1.heap.size 4 t := (Blk.new x1 4 t 49).at
  have K1 := K1.alloc (.cells (mk 4 t) 49)
  have T1 := T1.alloc (.cells (mk 4 t) 49)
  have K2 := K2.alloc (.cells (mk 4 t) 49)
  have CM := CM.alloc (.cells (mk 4 t) 49)
  have K8 := K8.alloc (.cells (mk 4 t) 49)
  have HB : Hid (Below w.heap.size w (x1.alloc (.cells (mk 4 t) 49))) := HB.out.alloc HB.out.size _
  clear hHeld
  generalize x1.alloc (.cells (mk 4 t) 49) = x2 at *
  generalize x1.heap.size = g2 at *
  refine hK.out _ _ ⟨K1, T1, CM⟩ (fun hHeld => ?_)
  clear hK K
  try simp only [Act.put, List.setIfInBounds_toArray, List.set_cons_zero, List.set_cons_succ]
  refine wpAnyH_ready (rs := [6]) (by kernel_rfl) (by simp) ?_
  refine AllReadyH.cons rfl (fun K hK => ?_) AllReadyH.nil
  rw [if_pos (by rfl)]
  refine wp_buildSS _ _ rfl rfl rfl ?_
  have OB : Oth (x2.alloc (.cells #[.slice (some ⟨g, 0, none⟩) n cap, .slice (some ⟨g2, 0, none⟩) 1 1] 32)) x2.heap.size #[.slice (some ⟨g, 0, none⟩) n cap, .slice (some ⟨g2, 0, none⟩) 1 1] 32 := heap_alloc_new _ _
  have K1 := K1.alloc (.cells #[.slice (some ⟨g, 0, none⟩) n cap, .slice (some ⟨g2, 0, none⟩) 1 1] 32)
  have T1 := T1.alloc (.cells #[.slice (some ⟨g, 0, none⟩) n cap, .slice (some ⟨g2, 0, none⟩) 1 1] 32)
  have K2 := K2.alloc (.cells #[.slice (some ⟨g, 0, none⟩) n cap, .slice (some ⟨g2, 0, none⟩) 1 1] 32)
  have CM := CM.alloc (.cells #[.slice (some ⟨g, 0, none⟩) n cap, .slice (some ⟨g2, 0, none⟩) 1 1] 32)
  have K8 := K8.alloc (.cells #[.slice (some ⟨g, 0, none⟩) n cap, .slice (some ⟨g2, 0, none⟩) 1 1] 32)
  have CS := CS.alloc (.cells #[.slice (some ⟨g, 0, none⟩) n cap, .slice (some ⟨g2, 0, none⟩) 1 1] 32)
  have HB : Hid (Below w.heap.size w (x2.alloc (.cells #[.slice (some ⟨g, 0, none⟩) n cap, .slice (some ⟨g2, 0, none⟩) 1 1] 32))) := HB.out.alloc HB.out.size _
  clear hHeld
  generalize x2.alloc (.cells #[.slice (some ⟨g, 0, none⟩) n cap, .slice (some ⟨g2, 0, none⟩) 1 1] 32) = x3 at *
  generalize x2.heap.size = b6 at *
  refine hK.out _ _ ⟨K1, T1, CM⟩ (fun hHeld => ?_)
  clear hK K
  try simp only [Act.put, List.setIfInBounds_toArray, List.set_cons_zero, List.set_cons_succ]
  refine wpAnyH_ready (rs := [7]) (by kernel_rfl) (by simp) ?_
  refine AllReadyH.cons rfl (fun K hK => ?_) AllReadyH.nil
  go_simp
  refine (concatT_any b6 g cap g2 1 n h t _ ((OB.cell 0).trans rfl) ((OB.cell 1).trans rfl) CM CS hn).mono ?_
  rintro e x4 ⟨g7, c7, rfl, ho, hb⟩
  have hs8 := K8.lt
  have hs7 : w.heap.size + 2 < x3.heap.size := K2.lt
  have K1 := K1.below hb K1.lt
  have T1 := T1.below hb T1.lt
  have K2 := K2.below hb K2.lt
  have CM := CM.below hb
  have K8 := K8.below hb K8.lt
  have CS := CS.below hb
  have OB := OB.below hb OB.lt
  have HB : Hid (Below w.heap.size w x4) := HB.out.trans (hb.mono HB.out.size)
  have OC : OwnT x4 (w.heap.size + 3) (.slice (some ⟨g7, 0, none⟩) (n + 1) c7) (n + 1) (addH h n t) := ho.wide (by omega)
  have H8C : Hid (∀ k, (Value.slice (some ⟨g7, 0, none⟩) (n + 1) c7).ownBlock = some k → k ≠ b8) := fun k e => by have := (ho.lt k e).1; omega
  clear hs8 hb ho hHeld hs7 OB CS
  go_wp2_with fail
  refine hK.out _ _ ⟨K1, T1, CM⟩ (fun hHeld => ?_)
  clear hK K
  try simp only [Act.put, List.setIfInBounds_toArray, List.set_cons_zero, List.set_cons_succ]
  refine wpAnyH_take (i := 8) (oi := { dst := some 15, op := _, type := _, pos := _, after := _, guard := _ }) (v := .agg (rpl f (.slice (some ⟨g7, 0, none⟩) (n + 1) c7))) rfl (by kernel_rfl) (by kernel_rfl) (by kernel_rfl) (fun _ _ _ h => h) (Or.inl ⟨by rfl, fun _ _ => exec_buildRp _ _ rfl rfl rfl⟩) (by assumption) ?_
  try simp only [Act.put, List.setIfInBounds_toArray, List.set_cons_zero, List.set_cons_succ]
  refine wpAnyH_ready (rs := [10]) (by kernel_rfl) (by simp) ?_
  refine AllReadyH.cons rfl (fun K hK => ?_) AllReadyH.nil
  have st1 := run_store_rp (g := f) (a := some ⟨g7, 0, none⟩) (n := n + 1) (c := c7) K8
  have ms1 : (rpl f (.slice (some ⟨g7, 0, none⟩) (n + 1) c7)).size = 17 := rpl_size _ _
  go_simp
  clear st1 ms1
  have hg8 := grown_rp K8 (rpl f (.slice (some ⟨g7, 0, none⟩) (n + 1) c7))
  have OC : OwnT (x4.setRow b8 (rpl f (.slice (some ⟨g7, 0, none⟩) (n + 1) c7))) (w.heap.size + 3) (.slice (some ⟨g7, 0, none⟩) (n + 1) c7) (n + 1) (addH h n t) := OC.kept hg8 (fun q => by have := H8C.out _ q; exact this rfl)
  have K1 := K1.rowOther b8 (rpl f (.slice (some ⟨g7, 0, none⟩) (n + 1) c7)) (by have := H8.out; omega)
  have T1 := T1.rowOther b8 (rpl f (.slice (some ⟨g7, 0, none⟩) (n + 1) c7)) (by have := H8.out; omega)
  have K2 := K2.rowOther b8 (rpl f (.slice (some ⟨g7, 0, none⟩) (n + 1) c7)) (by have := H8.out; omega)
  have CM := CM.grown hg8 (fun q => by have q : g = b8 := Option.some.inj q; have := H8.out; omega)
  have HB : Hid (Below w.heap.size w (x4.setRow b8 (rpl f (.slice (some ⟨g7, 0, none⟩) (n + 1) c7)))) := below_setRow HB.out (by have := H8.out; omega) _
  have K8 := K8.row f (.slice (some ⟨g7, 0, none⟩) (n + 1) c7)
  clear hHeld hg8
  generalize x4.setRow b8 (rpl f (.slice (some ⟨g7, 0, none⟩) (n + 1) c7)) = x5 at *
  refine hK.out _ _ ⟨K1, T1, CM⟩ (fun hHeld => ?_)
  clear hK K
  try simp only [Act.put, List.setIfInBounds_toArray, List.set_cons_zero, List.set_cons_succ]
  refine wpAnyH_done (by kernel_rfl) ?_ _
  clear hHeld
  go_wp2_with ((with_reducible show wpList _ _ _ (Oper.mk _ (Op.load 34 _) _ _ _ _ :: _) _ _); refine loadRp (K8) rfl rfl rfl ?_)
  by_cases hA : RpOk f (addH h n t) (n + 1)
  · have hA2 := add_iff.2 hA
    obtain ⟨y1, y2⟩ := ad_yes hA2
    have HY : Hid (adF f h n t = f ∧ adN f h n t = n + 1 ∧ decide (addOk f h n t) = true) := ⟨y1, y2, decide_eq_true hA2⟩
    have h41 := hA.2.1
    have hcon := implIs_any f _ (n + 1) (addH h n t) x5 OC.krow (by omega)
    rw [rplO_yes hA] at hcon
    refine hcon.mono ?_
    rintro e y1 ⟨rfl, hb⟩
    have K2 := K2.below hb K2.lt
    have K8 := K8.below hb K8.lt
    have OC := OC.below hb
    have HB : Hid (Below w.heap.size w y1) := HB.out.trans (hb.mono HB.out.size)
    clear hb hcon
    have OD : OwnT (y1.setRow (w.heap.size + 2) (rpl f (.slice (some ⟨g7, 0, none⟩) (n + 1) c7))) (w.heap.size + 3) (.slice (some ⟨g7, 0, none⟩) (n + 1) c7) (n + 1) (addH h n t) := OC.kept (grown_rp K2 _) (fun q => by have := (OC.lt _ q).1; omega)
    have HB2 : Hid (Below w.heap.size w (y1.setRow (w.heap.size + 2) (rpl f (.slice (some ⟨g7, 0, none⟩) (n + 1) c7)))) := below_setRow HB.out (by omega) _
    go_wp2_with (first | ((with_reducible show wpList _ _ _ (Oper.mk _ (Op.load 34 _) _ _ _ _ :: _) _ _); refine loadRp (K8) rfl rfl rfl ?_) | ((with_reducible show wpList _ _ _ (Oper.mk _ (Op.store 34 _ _) _ _ _ _ :: _) _ _); refine storeRp (K2) (by rfl) rfl rfl rfl rfl ?_))
    try simp only [Exit.inBlock, Exit.then]
    refine retRpT (K2.row _ _) rfl rfl rfl ?_
    rw [HY.out.1, HY.out.2.1, HY.out.2.2]
    exact ⟨_, _, rfl, OD.wide (by omega), HB2.out⟩
  · have hA2 : ¬ addOk f h n t := fun q => hA (add_iff.1 q)
    obtain ⟨y1, y2⟩ := ad_no hA2
    have HY : Hid (adF f h n t = (fun _ => 0) ∧ adN f h n t = 0 ∧ decide (addOk f h n t) = false) := ⟨y1, y2, decide_eq_false hA2⟩
    have hcon : Calls Try.prog 18 #[.agg (rpl f (.slice (some ⟨g7, 0, none⟩) (n + 1) c7))] x5 fun e w' => e = .returned (.bool false) ∧ Below x5.heap.size x5 w' := by
      by_cases h41 : n + 1 ≤ 40
      · have := implIs_any f _ (n + 1) (addH h n t) x5 OC.krow (by omega)
        rwa [rplO_no hA] at this
      · exact implIs_over f _ (n + 1) c7 x5 (by omega)
    refine hcon.mono ?_
    rintro e y1 ⟨rfl, hb⟩
    have K2 := K2.below hb K2.lt
    have HB : Hid (Below w.heap.size w y1) := HB.out.trans (hb.mono HB.out.size)
    clear hb hcon
    have HB2 : Hid (Below w.heap.size w (y1.setRow (w.heap.size + 2) (rpl (fun _ => 0) (.slice none 0 0)))) := below_setRow HB.out (by omega) _
    go_wp2_with ((with_reducible show wpList _ _ _ (Oper.mk _ (Op.store 34 _ _) _ _ _ _ :: _) _ _); refine storeRp (K2) (by rfl) rfl rfl rfl rfl ?_)
    try simp only [Exit.inBlock, Exit.then]
    refine retRpT (K2.row _ _) rfl rfl rfl ?_
    rw [HY.out.1, HY.out.2.1, HY.out.2.2]
    exact ⟨none, 0, rfl, OwnT.none _ _ _, HB2.out⟩
set_option maxHeartbeats 8000000 in
set_option maxRecDepth 20000 in
theorem specAdd_any (f : Nat → Int) (v : Value) (n : Nat) (h t : Nat → Int) (w : World) (hv : KRow 4 w v n h) (hn : n ≤ 1048576) :
    Calls Try.prog 25 #[.agg (rpl f v), .agg (mk 4 t)] w fun e w' => ∃ a c, e = .returned (.tuple #[.agg (rpl (adF f h n t) (.slice a (adN f h n t) c)), .bool (decide (addOk f h n t))]) ∧ OwnT w' w.heap.size (.slice a (adN f h n t) c) (adN f h n t) (addH h n t) ∧ Below w.heap.size w w' := by
  obtain ⟨i0, hi, hz0, hz1, hz2⟩ := info_parts infoT
  obtain ⟨g, cap, rfl, hle, hc⟩ := hv
  have z17 := zeroRp
  have hb0 := (((Below.refl w.heap.size w).alloc (Nat.le_refl _) (.cells (rpl f (.slice (some ⟨g, 0, none⟩) n cap)) 34)).alloc (by simp) (.cells (mk 4 t) 49)).alloc (by simp; omega) (.cells (rpl (fun _ => 0) (.slice none 0 0)) 34)
  have K1 := ((Rp.new w f (.slice (some ⟨g, 0, none⟩) n cap) 34).alloc (.cells (mk 4 t) 49)).alloc (.cells (rpl (fun _ => 0) (.slice none 0 0)) 34)
  have T1 := (Blk.new (w.alloc (.cells (rpl f (.slice (some ⟨g, 0, none⟩) n cap)) 34)) 4 t 49).alloc (.cells (rpl (fun _ => 0) (.slice none 0 0)) 34)
  have K2 := Rp.new ((w.alloc (.cells (rpl f (.slice (some ⟨g, 0, none⟩) n cap)) 34)).alloc (.cells (mk 4 t) 49)) (fun _ => 0) (.slice none 0 0) 34
  have HB := Lib.hid hb0
  simp only [World.size_alloc] at T1 K2
  have hg0 := hc.1
  have hC0 := hc
  have HV := Lib.hid (KRow.below (m := 4) (v := (.slice (some ⟨g, 0, none⟩) n cap)) (n := n) (h := h) ⟨g, cap, rfl, hle, hc⟩ hb0)
  have HCon := l11Boards_any f _ n h _ HV.out hn
  clear hc hb0
  have hKR : KRow 4 w (.slice (some ⟨g, 0, none⟩) n cap) n h := ⟨g, cap, rfl, hle, hC0⟩
  by_cases hR : RpOk f h n
  · have HR := Lib.hid hR
    have hn40 := hR.2.1
    have HE : Hid (rbR f h n = rbL f h (n + 1)) := by show _ = _; unfold rbR; rw [if_pos hR]
    rw [rplO_yes hR, HE.out, rbL_len] at HCon
    have HCon := Lib.hid HCon
    have HVN := Lib.hid (hR.vd n)
    have HKR := Lib.hid (fun W (q : Below w.heap.size w W) => KRow.low4 hKR q)
    clear hR HE
    by_cases hlt : n < 40
    · have hl : (n : Int) < 40 := by omega
      have hl2 : ¬ ((40 : Int) ≤ (n : Int)) := by omega
      go_enter Try.func25, Try.ntmps25
      go_wp2_with ((with_reducible show wpList _ _ _ (Oper.mk _ (Op.load 34 _) _ _ _ _ :: _) _ _); refine loadRp (K1) rfl rfl rfl ?_)
      refine HCon.out.mono ?_
      clear HCon
      rintro e w1 ⟨u, rfl, ⟨gb, cb, rfl⟩, ho, hb⟩
      have K1 := K1.below hb K1.lt
      have T1 := T1.below hb T1.lt
      have K2 := K2.below hb K2.lt
      have HV := Lib.hid (HV.out.below hb)
      have HB : Hid (Below w.heap.size w w1) := HB.out.trans (hb.mono HB.out.size)
      have c16 := K1.last
      have CO := rb_cat ho
      clear hb ho HV
      have HFM := Lib.hid (rb_load f h (k := n) (n := n + 1) (by omega))
      have q1 : IntKind.i64.wrap ((n : Int) + 1 - 1) = (n : Int) := by rw [show (n : Int) + 1 - 1 = (n : Int) by omega]; exact IntWalk.i64_in _ (by omega)
      have q1b : IntKind.i64.wrap (n : Int) = (n : Int) := IntWalk.i64_in _ (by omega)
      have q2 : (0 : Int) ≤ (n : Int) := by omega
      have q3 : ¬ ((n : Int) + 1 ≤ (n : Int)) := by omega
      go_wp2_with fail
      clear c16
      refine wp_region_held_drew (S := fun W => CAt W gb ((n + 1) * 16) (flatF (rbL f h (n + 1))) ∧ Blk W (w.heap.size + 1) 4 t 49) (by kernel_rfl) (⟨CO.drew, T1.drew⟩) (fun hHeld => ?_)
      have K1 : Rp w1.drew w.heap.size f (.slice (some ⟨g, 0, none⟩) n cap) 34 := K1.drew
      have T1 : Blk w1.drew (w.heap.size + 1) 4 t 49 := T1.drew
      have K2 : Rp w1.drew (w.heap.size + 2) (fun _ => 0) (.slice none 0 0) 34 := K2.drew
      have CO : CAt w1.drew gb ((n + 1) * 16) (flatF (rbL f h (n + 1))) := CO.drew
      have HB : Hid (Below w.heap.size w w1.drew) := HB.out.drew
      generalize w1.drew = x0 at *
      refine wpAnyH_take (i := 0) (oi := { dst := some 29, op := _, type := _, pos := _, after := _, guard := _ }) (v := .slice (some ⟨gb, 0, none⟩) (n + 1) cb) rfl (by kernel_rfl) (by kernel_rfl) (by kernel_rfl) (fun _ _ _ h => h) (Or.inl ⟨by rfl, by intro w hSw; clear hSw; go_simp; (try with_reducible rfl)⟩) (by assumption) ?_
      try simp only [Act.put, List.setIfInBounds_toArray, List.set_cons_zero, List.set_cons_succ]
      refine wpAnyH_take (i := 1) (oi := { dst := some 30, op := _, type := _, pos := _, after := _, guard := _ }) (v := .slice (some ⟨gb, 0, none⟩) (n + 1) cb) rfl (by kernel_rfl) (by kernel_rfl) (by kernel_rfl) (fun _ _ _ h => h) (Or.inl ⟨by rfl, by intro w hSw; clear hSw; go_simp; (try with_reducible rfl)⟩) (by assumption) ?_
      try simp only [Act.put, List.setIfInBounds_toArray, List.set_cons_zero, List.set_cons_succ]
      refine wpAnyH_take (i := 2) (oi := { dst := some 31, op := _, type := _, pos := _, after := _, guard := _ }) (v := .int .i64 ((n : Int) + 1)) rfl (by kernel_rfl) (by kernel_rfl) (by kernel_rfl) (fun _ _ _ h => h) (Or.inl ⟨by rfl, by intro w hSw; clear hSw; go_simp; (try with_reducible rfl)⟩) (by assumption) ?_
      try simp only [Act.put, List.setIfInBounds_toArray, List.set_cons_zero, List.set_cons_succ]
      refine wpAnyH_take (i := 3) (oi := { dst := some 32, op := _, type := _, pos := _, after := _, guard := _ }) (v := .int .i64 (n : Int)) rfl (by kernel_rfl) (by kernel_rfl) (by kernel_rfl) (fun _ _ _ h => h) (Or.inl ⟨by rfl, by intro w hSw; clear hSw; go_simp; (try with_reducible rfl)⟩) (by assumption) ?_
      try simp only [Act.put, List.setIfInBounds_toArray, List.set_cons_zero, List.set_cons_succ]
      refine wpAnyH_take (i := 4) (oi := { dst := some 33, op := _, type := _, pos := _, after := _, guard := _ }) (v := .pointer (some ⟨gb, n * 16, none⟩)) rfl (by kernel_rfl) (by kernel_rfl) (by kernel_rfl) (fun _ _ _ h => h) (Or.inl ⟨by rfl, by intro w hSw; clear hSw; go_simp; (try with_reducible rfl)⟩) (by assumption) ?_
      try simp only [Act.put, List.setIfInBounds_toArray, List.set_cons_zero, List.set_cons_succ]
      refine wpAnyH_take (i := 5) (oi := { dst := some 34, op := _, type := _, pos := _, after := _, guard := _ }) (v := .agg (mk 16 (pyB f h n))) rfl (by kernel_rfl) (by kernel_rfl) (by kernel_rfl) (fun _ _ _ h => h) (Or.inl ⟨by rfl, fun W q => Eq.mp (congrArg (fun z => (execOp _ _).run Try.prog W = .ok (.value (.agg z)) W) HFM.out) (execAB q.1 (by omega) rfl rfl)⟩) (by assumption) ?_
      try simp only [Act.put, List.setIfInBounds_toArray, List.set_cons_zero, List.set_cons_succ]
      refine wpAnyH_take (i := 6) (oi := { dst := some 35, op := _, type := _, pos := _, after := _, guard := _ }) (v := .agg (mk 4 t)) rfl (by kernel_rfl) (by kernel_rfl) (by kernel_rfl) (fun _ _ _ h => h) (Or.inl ⟨by rfl, fun _ q => execU4 q.2 rfl rfl⟩) (by assumption) ?_
      try simp only [Act.put, List.setIfInBounds_toArray, List.set_cons_zero, List.set_cons_succ]
      refine wpAnyH_ready (rs := [7, 12]) (by kernel_rfl) (by simp) ?_
      refine AllReadyH.cons rfl (fun K hK => ?_) ?_
      · go_simp
        refine (l5Do_any (pyB f h n) t _ HVN.out).mono ?_
        rintro e x1 ⟨rfl, hb⟩
        have K1 := K1.below hb K1.lt
        have T1 := T1.below hb T1.lt
        have K2 := K2.below hb K2.lt
        have CO := CO.below hb
        have HB : Hid (Below w.heap.size w x1) := HB.out.trans (hb.mono HB.out.size)
        clear hb hHeld
        go_wp2_with fail
        refine hK.out _ _ ⟨CO, T1⟩ (fun hHeld => ?_)
        clear hK K
        try simp only [Act.put, List.setIfInBounds_toArray, List.set_cons_zero, List.set_cons_succ]
        refine wpAnyH_take (i := 8) (oi := { dst := some 28, op := _, type := _, pos := _, after := _, guard := _ }) (v := .tuple #[.agg (mk 16 (doB (pyB f h n) t)), .int .i64 (doS (pyB f h n) t), .bool (doO (pyB f h n) t)]) rfl (by kernel_rfl) (by kernel_rfl) (by kernel_rfl) (fun _ _ _ h => h) (Or.inl ⟨by rfl, by intro w hSw; clear hSw; go_simp; (try with_reducible rfl)⟩) (by assumption) ?_
        try simp only [Act.put, List.setIfInBounds_toArray, List.set_cons_zero, List.set_cons_succ]
        refine wpAnyH_take (i := 9) (oi := { dst := some 37, op := _, type := _, pos := _, after := _, guard := _ }) (v := .agg (mk 16 (doB (pyB f h n) t))) rfl (by kernel_rfl) (by kernel_rfl) (by kernel_rfl) (fun _ _ _ h => h) (Or.inl ⟨by rfl, by intro w hSw; clear hSw; go_simp; (try with_reducible rfl)⟩) (by assumption) ?_
        try simp only [Act.put, List.setIfInBounds_toArray, List.set_cons_zero, List.set_cons_succ]
        refine wpAnyH_take (i := 10) (oi := { dst := some 38, op := _, type := _, pos := _, after := _, guard := _ }) (v := .int .i64 (doS (pyB f h n) t)) rfl (by kernel_rfl) (by kernel_rfl) (by kernel_rfl) (fun _ _ _ h => h) (Or.inl ⟨by rfl, by intro w hSw; clear hSw; go_simp; (try with_reducible rfl)⟩) (by assumption) ?_
        try simp only [Act.put, List.setIfInBounds_toArray, List.set_cons_zero, List.set_cons_succ]
        refine wpAnyH_take (i := 11) (oi := { dst := some 39, op := _, type := _, pos := _, after := _, guard := _ }) (v := .bool (doO (pyB f h n) t)) rfl (by kernel_rfl) (by kernel_rfl) (by kernel_rfl) (fun _ _ _ h => h) (Or.inl ⟨by rfl, by intro w hSw; clear hSw; go_simp; (try with_reducible rfl)⟩) (by assumption) ?_
        try simp only [Act.put, List.setIfInBounds_toArray, List.set_cons_zero, List.set_cons_succ]
        refine wpAnyH_ready (rs := [12]) (by kernel_rfl) (by simp) ?_
        refine AllReadyH.cons rfl (fun K hK => ?_) AllReadyH.nil
        rw [if_pos (by rfl)]
        refine wp_allocX rfl ?_
        have K8 := Blk.new x1 16 (fun _ => 0) 31
        have H8 : Hid (w.heap.size + 2 < x1.heap.size ∧ gb < x1.heap.size) := ⟨K2.lt, CO.1⟩
        have K1 := K1.alloc (.cells (mk 16 fun _ => 0) 31)
        have T1 := T1.alloc (.cells (mk 16 fun _ => 0) 31)
        have K2 := K2.alloc (.cells (mk 16 fun _ => 0) 31)
        have CO := CO.alloc (.cells (mk 16 fun _ => 0) 31)
        have HB : Hid (Below w.heap.size w (x1.alloc (.cells (mk 16 fun _ => 0) 31))) := HB.out.alloc HB.out.size _
        clear hHeld
        generalize x1.alloc (.cells (mk 16 fun _ => 0) 31) = x2 at *
        generalize x1.heap.size = b8 at *
        refine hK.out _ _ ⟨CO, T1⟩ (fun hHeld => ?_)
        clear hK K
        try simp only [Act.put, List.setIfInBounds_toArray, List.set_cons_zero, List.set_cons_succ]
        refine wpAnyH_ready (rs := [13]) (by kernel_rfl) (by simp) ?_
        refine AllReadyH.cons rfl (fun K hK => ?_) AllReadyH.nil
        have st1 := run_store_blk (P := Try.prog) (g := doB (pyB f h n) t) K8
        have ms1 : (mk 16 (doB (pyB f h n) t)).size = 16 := mk_size 16 _
        go_simp
        clear st1 ms1
        have K1 := K1.rowOther b8 (mk 16 (doB (pyB f h n) t)) (by have := H8.out.1; omega)
        have T1 := T1.rowOther b8 (mk 16 (doB (pyB f h n) t)) (by have := H8.out.1; omega)
        have K2 := K2.rowOther b8 (mk 16 (doB (pyB f h n) t)) (by have := H8.out.1; omega)
        have CO := CO.grown (grown_row K8 (mk 16 (doB (pyB f h n) t))) (fun q => by have q : gb = b8 := Option.some.inj q; have := H8.out.2; omega)
        have HB : Hid (Below w.heap.size w (x2.setRow b8 (mk 16 (doB (pyB f h n) t)))) := below_setRow HB.out (by have := H8.out.1; omega) _
        clear hHeld K8
        generalize x2.setRow b8 (mk 16 (doB (pyB f h n) t)) = x3 at *
        refine hK.out _ _ ⟨CO, T1⟩ (fun hHeld => ?_)
        clear hK K
        try simp only [Act.put, List.setIfInBounds_toArray, List.set_cons_zero, List.set_cons_succ]
        refine wpAnyH_take (i := 14) (oi := { dst := some 10, op := _, type := _, pos := _, after := _, guard := _ }) (v := .int .i64 (doS (pyB f h n) t)) rfl (by kernel_rfl) (by kernel_rfl) (by kernel_rfl) (fun _ _ _ h => h) (Or.inl ⟨by rfl, by intro w hSw; clear hSw; go_simp; (try with_reducible rfl)⟩) (by assumption) ?_
        try simp only [Act.put, List.setIfInBounds_toArray, List.set_cons_zero, List.set_cons_succ]
        refine wpAnyH_take (i := 15) (oi := { dst := some 11, op := _, type := _, pos := _, after := _, guard := _ }) (v := .bool (doO (pyB f h n) t)) rfl (by kernel_rfl) (by kernel_rfl) (by kernel_rfl) (fun _ _ _ h => h) (Or.inl ⟨by rfl, by intro w hSw; clear hSw; go_simp; (try with_reducible rfl)⟩) (by assumption) ?_
        try simp only [Act.put, List.setIfInBounds_toArray, List.set_cons_zero, List.set_cons_succ]
        refine wpAnyH_done (by kernel_rfl) ?_ _
        clear hHeld
        cases hO : doO (pyB f h n) t with
        | false =>
          have hA2 : ¬ addOk f h n t := fun q => by have := q.2.2; simp [doO] at hO; exact hO this
          obtain ⟨y1, y2⟩ := ad_no hA2
          have HY : Hid (adF f h n t = (fun _ => 0) ∧ adN f h n t = 0 ∧ decide (addOk f h n t) = false) := ⟨y1, y2, decide_eq_false hA2⟩
          clear y1 y2
          clear hO
          have HB2 : Hid (Below w.heap.size w (x3.setRow (w.heap.size + 2) (rpl (fun _ => 0) (.slice none 0 0)))) := below_setRow HB.out (by omega) _
          go_wp2_with ((with_reducible show wpList _ _ _ (Oper.mk _ (Op.store 34 _ _) _ _ _ _ :: _) _ _); refine storeRp (K2) (by rfl) rfl rfl rfl rfl ?_)
          try simp only [Exit.inBlock, Exit.then]
          refine retRpT (K2.row _ _) rfl rfl rfl ?_
          rw [HY.out.1, HY.out.2.1, HY.out.2.2]
          exact ⟨none, 0, rfl, OwnT.none _ _ _, HB2.out⟩
        | true =>
          have hA2 : addOk f h n t := ⟨HR.out, hlt, by simpa [doO] using hO⟩
          obtain ⟨y1, y2⟩ := ad_yes hA2
          have HY : Hid (adF f h n t = f ∧ adN f h n t = n + 1 ∧ decide (addOk f h n t) = true) := ⟨y1, y2, decide_eq_true hA2⟩
          clear y1 y2 hO hA2
          have c16 := K1.last
          have HV3 := Lib.hid (HKR.out x3 HB.out)
          have hs3 := K2.lt
          go_wp2_with ((with_reducible show wpList _ _ _ (Oper.mk _ (Op.load 34 _) _ _ _ _ :: _) _ _); refine loadRp (K1) rfl rfl rfl ?_)
          refine (l11Cut_any f _ n n h _ HV3.out (Nat.le_refl _) hn).mono ?_
          rintro e y1 ⟨a, c, rfl, ho, hb⟩
          have T1 := T1.below hb T1.lt
          have K2 := K2.below hb K2.lt
          have HB : Hid (Below w.heap.size w y1) := HB.out.trans (hb.mono HB.out.size)
          have OC : OwnT y1 (w.heap.size + 3) (.slice a n c) n h := ho.wide (by omega)
          clear hb ho c16 hs3
          have hs4 := K2.lt
          have hOC1 := fun k e => (OC.lt k e).2
          have T1 := T1.alloc (.cells (rpl f (.slice a n c)) 34)
          have K2 := K2.alloc (.cells (rpl f (.slice a n c)) 34)
          have K12 := Rp.new y1 f (.slice a n c) 34
          have HB : Hid (Below w.heap.size w (y1.alloc (.cells (rpl f (.slice a n c)) 34))) := HB.out.alloc HB.out.size _
          have OC := OC.alloc (.cells (rpl f (.slice a n c)) 34)
          have c16 := K12.last
          generalize hb12 : y1.heap.size = b12 at *
          have H12 : Hid (∀ k, (Value.slice a n c).ownBlock = some k → k ≠ b12) := fun k e => by have := hOC1 k e; omega
          clear hOC1
          go_wp2_with (first | ((with_reducible show wpList _ _ _ (Oper.mk _ (Op.load 49 _) _ _ _ _ :: _) _ _); refine loadT (T1) rfl rfl rfl ?_) | ((with_reducible show wpList _ _ _ (Oper.mk _ (Op.buildSlice _ 1 _) _ _ _ _ :: _) _ _); refine wpl_buildT _ rfl rfl (f := t) rfl ?_) | (at_builtin; refine wpl_app (v := .slice a n c) rfl _ _ 32 rfl (w.heap.size + 3) 49 i0 _ 4 32 Try.underlying32 hi hz0 hz1 hz2 rfl (by decide) rfl (OC.alloc (.cells (mk 4 t) 49)) _ 0 1 1 t 4 rfl (Blk.new _ _ _ _).at (by omega) (by unfold maxLen; omega) (by omega) (by have := HB.out.size; simp; omega) ?_))
          intro v' y2 R hbl hgr hloc
          have OD : OwnT y2 (w.heap.size + 3) v' (n + 1) (addH h n t) := by
            have e := addH_lit h t n
            simp only [Nat.one_mul, Nat.zero_add] at e R
            rw [e] at R
            exact R
          have K12 := Rp.grown (K12.alloc (.cells (mk 4 t) 49)) hgr (fun e => H12.out _ e rfl)
          have K2 := (K2.alloc (.cells (mk 4 t) 49)).below hbl (by omega)
          have HB : Hid (Below w.heap.size w y2) := (HB.out.alloc HB.out.size _).trans (hbl.mono (by omega))
          have hne' : v'.ownBlock ≠ some b12 := by
            intro e
            rcases hloc with r | r
            · rw [r] at e; exact H12.out _ e rfl
            · rw [r] at e
              have q := Option.some.inj e
              try simp only [World.size_alloc] at q
              omega
          clear hbl hgr hloc R OC T1 c16
          obtain ⟨a', c', rfl⟩ := OD.form
          have d16 := K12.last
          have f16 := K12.free 16
          have K12s := K12.set (.slice a' (n + 1) c')
          have K2s := K2.setOther ⟨b12, 16, none⟩ (.slice a' (n + 1) c') (by dsimp only; omega)
          have ODs : OwnT (y2.setCell ⟨b12, 16, none⟩ (.slice a' (n + 1) c')) (w.heap.size + 3) (.slice a' (n + 1) c') (n + 1) (addH h n t) := World.ownsRow.kept OD (grown_cellAt y2 ⟨b12, 16, none⟩ _) (Or.inr hne')
          have HBs : Hid (Below w.heap.size w (y2.setCell ⟨b12, 16, none⟩ (.slice a' (n + 1) c'))) := HB.out.setCell (by dsimp only; omega) _
          have ODf : OwnT ((y2.setCell ⟨b12, 16, none⟩ (.slice a' (n + 1) c')).setRow (w.heap.size + 2) (rpl f (.slice a' (n + 1) c'))) (w.heap.size + 3) (.slice a' (n + 1) c') (n + 1) (addH h n t) := ODs.kept (grown_rp K2s _) (fun q => by have := (ODs.lt _ q).1; omega)
          have HBf : Hid (Below w.heap.size w ((y2.setCell ⟨b12, 16, none⟩ (.slice a' (n + 1) c')).setRow (w.heap.size + 2) (rpl f (.slice a' (n + 1) c')))) := below_setRow HBs.out (by omega) _
          clear hne' OD ODs
          go_wp2_with (first | ((with_reducible show wpList _ _ _ (Oper.mk _ (Op.load 34 _) _ _ _ _ :: _) _ _); refine loadRp (K12s) rfl rfl rfl ?_) | ((with_reducible show wpList _ _ _ (Oper.mk _ (Op.store 34 _ _) _ _ _ _ :: _) _ _); refine storeRp (K2s) (by rfl) rfl rfl rfl rfl ?_))
          try simp only [Exit.inBlock, Exit.then]
          refine retRpT (K2s.row _ _) rfl rfl rfl ?_
          rw [HY.out.1, HY.out.2.1, HY.out.2.2]
          exact ⟨_, _, rfl, ODf.wide (by omega), HBf.out⟩
      refine AllReadyH.cons rfl (fun K hK => ?_) AllReadyH.nil
      rw [if_pos (by rfl)]
      refine wp_allocX rfl ?_
      have K8 := Blk.new x0 16 (fun _ => 0) 31
      have H8 : Hid (w.heap.size + 2 < x0.heap.size ∧ gb < x0.heap.size) := ⟨K2.lt, CO.1⟩
      have K1 := K1.alloc (.cells (mk 16 fun _ => 0) 31)
      have T1 := T1.alloc (.cells (mk 16 fun _ => 0) 31)
      have K2 := K2.alloc (.cells (mk 16 fun _ => 0) 31)
      have CO := CO.alloc (.cells (mk 16 fun _ => 0) 31)
      have HB : Hid (Below w.heap.size w (x0.alloc (.cells (mk 16 fun _ => 0) 31))) := HB.out.alloc HB.out.size _
      clear hHeld
      generalize x0.alloc (.cells (mk 16 fun _ => 0) 31) = x1 at *
      generalize x0.heap.size = b8 at *
      refine hK.out _ _ ⟨CO, T1⟩ (fun hHeld => ?_)
      clear hK K
      try simp only [Act.put, List.setIfInBounds_toArray, List.set_cons_zero, List.set_cons_succ]
      refine wpAnyH_ready (rs := [7]) (by kernel_rfl) (by simp) ?_
      refine AllReadyH.cons rfl (fun K hK => ?_) AllReadyH.nil
      go_simp
      refine (l5Do_any (pyB f h n) t _ HVN.out).mono ?_
      rintro e x2 ⟨rfl, hb⟩
      have K1 := K1.below hb K1.lt
      have T1 := T1.below hb T1.lt
      have K2 := K2.below hb K2.lt
      have K8 := K8.below hb K8.lt
      have CO := CO.below hb
      have HB : Hid (Below w.heap.size w x2) := HB.out.trans (hb.mono HB.out.size)
      clear hb hHeld
      go_wp2_with fail
      refine hK.out _ _ ⟨CO, T1⟩ (fun hHeld => ?_)
      clear hK K
      try simp only [Act.put, List.setIfInBounds_toArray, List.set_cons_zero, List.set_cons_succ]
      refine wpAnyH_take (i := 8) (oi := { dst := some 28, op := _, type := _, pos := _, after := _, guard := _ }) (v := .tuple #[.agg (mk 16 (doB (pyB f h n) t)), .int .i64 (doS (pyB f h n) t), .bool (doO (pyB f h n) t)]) rfl (by kernel_rfl) (by kernel_rfl) (by kernel_rfl) (fun _ _ _ h => h) (Or.inl ⟨by rfl, by intro w hSw; clear hSw; go_simp; (try with_reducible rfl)⟩) (by assumption) ?_
      try simp only [Act.put, List.setIfInBounds_toArray, List.set_cons_zero, List.set_cons_succ]
      refine wpAnyH_take (i := 9) (oi := { dst := some 37, op := _, type := _, pos := _, after := _, guard := _ }) (v := .agg (mk 16 (doB (pyB f h n) t))) rfl (by kernel_rfl) (by kernel_rfl) (by kernel_rfl) (fun _ _ _ h => h) (Or.inl ⟨by rfl, by intro w hSw; clear hSw; go_simp; (try with_reducible rfl)⟩) (by assumption) ?_
      try simp only [Act.put, List.setIfInBounds_toArray, List.set_cons_zero, List.set_cons_succ]
      refine wpAnyH_take (i := 10) (oi := { dst := some 38, op := _, type := _, pos := _, after := _, guard := _ }) (v := .int .i64 (doS (pyB f h n) t)) rfl (by kernel_rfl) (by kernel_rfl) (by kernel_rfl) (fun _ _ _ h => h) (Or.inl ⟨by rfl, by intro w hSw; clear hSw; go_simp; (try with_reducible rfl)⟩) (by assumption) ?_
      try simp only [Act.put, List.setIfInBounds_toArray, List.set_cons_zero, List.set_cons_succ]
      refine wpAnyH_take (i := 11) (oi := { dst := some 39, op := _, type := _, pos := _, after := _, guard := _ }) (v := .bool (doO (pyB f h n) t)) rfl (by kernel_rfl) (by kernel_rfl) (by kernel_rfl) (fun _ _ _ h => h) (Or.inl ⟨by rfl, by intro w hSw; clear hSw; go_simp; (try with_reducible rfl)⟩) (by assumption) ?_
      try simp only [Act.put, List.setIfInBounds_toArray, List.set_cons_zero, List.set_cons_succ]
      refine wpAnyH_ready (rs := [13]) (by kernel_rfl) (by simp) ?_
      refine AllReadyH.cons rfl (fun K hK => ?_) AllReadyH.nil
      have st1 := run_store_blk (P := Try.prog) (g := doB (pyB f h n) t) K8
      have ms1 : (mk 16 (doB (pyB f h n) t)).size = 16 := mk_size 16 _
      go_simp
      clear st1 ms1
      have K1 := K1.rowOther b8 (mk 16 (doB (pyB f h n) t)) (by have := H8.out.1; omega)
      have T1 := T1.rowOther b8 (mk 16 (doB (pyB f h n) t)) (by have := H8.out.1; omega)
      have K2 := K2.rowOther b8 (mk 16 (doB (pyB f h n) t)) (by have := H8.out.1; omega)
      have CO := CO.grown (grown_row K8 (mk 16 (doB (pyB f h n) t))) (fun q => by have q : gb = b8 := Option.some.inj q; have := H8.out.2; omega)
      have HB : Hid (Below w.heap.size w (x2.setRow b8 (mk 16 (doB (pyB f h n) t)))) := below_setRow HB.out (by have := H8.out.1; omega) _
      clear hHeld K8
      generalize x2.setRow b8 (mk 16 (doB (pyB f h n) t)) = x3 at *
      refine hK.out _ _ ⟨CO, T1⟩ (fun hHeld => ?_)
      clear hK K
      try simp only [Act.put, List.setIfInBounds_toArray, List.set_cons_zero, List.set_cons_succ]
      refine wpAnyH_take (i := 14) (oi := { dst := some 10, op := _, type := _, pos := _, after := _, guard := _ }) (v := .int .i64 (doS (pyB f h n) t)) rfl (by kernel_rfl) (by kernel_rfl) (by kernel_rfl) (fun _ _ _ h => h) (Or.inl ⟨by rfl, by intro w hSw; clear hSw; go_simp; (try with_reducible rfl)⟩) (by assumption) ?_
      try simp only [Act.put, List.setIfInBounds_toArray, List.set_cons_zero, List.set_cons_succ]
      refine wpAnyH_take (i := 15) (oi := { dst := some 11, op := _, type := _, pos := _, after := _, guard := _ }) (v := .bool (doO (pyB f h n) t)) rfl (by kernel_rfl) (by kernel_rfl) (by kernel_rfl) (fun _ _ _ h => h) (Or.inl ⟨by rfl, by intro w hSw; clear hSw; go_simp; (try with_reducible rfl)⟩) (by assumption) ?_
      try simp only [Act.put, List.setIfInBounds_toArray, List.set_cons_zero, List.set_cons_succ]
      refine wpAnyH_done (by kernel_rfl) ?_ _
      clear hHeld
      cases hO : doO (pyB f h n) t with
      | false =>
        have hA2 : ¬ addOk f h n t := fun q => by have := q.2.2; simp [doO] at hO; exact hO this
        obtain ⟨y1, y2⟩ := ad_no hA2
        have HY : Hid (adF f h n t = (fun _ => 0) ∧ adN f h n t = 0 ∧ decide (addOk f h n t) = false) := ⟨y1, y2, decide_eq_false hA2⟩
        clear y1 y2
        clear hO
        have HB2 : Hid (Below w.heap.size w (x3.setRow (w.heap.size + 2) (rpl (fun _ => 0) (.slice none 0 0)))) := below_setRow HB.out (by omega) _
        go_wp2_with ((with_reducible show wpList _ _ _ (Oper.mk _ (Op.store 34 _ _) _ _ _ _ :: _) _ _); refine storeRp (K2) (by rfl) rfl rfl rfl rfl ?_)
        try simp only [Exit.inBlock, Exit.then]
        refine retRpT (K2.row _ _) rfl rfl rfl ?_
        rw [HY.out.1, HY.out.2.1, HY.out.2.2]
        exact ⟨none, 0, rfl, OwnT.none _ _ _, HB2.out⟩
      | true =>
        have hA2 : addOk f h n t := ⟨HR.out, hlt, by simpa [doO] using hO⟩
        obtain ⟨y1, y2⟩ := ad_yes hA2
        have HY : Hid (adF f h n t = f ∧ adN f h n t = n + 1 ∧ decide (addOk f h n t) = true) := ⟨y1, y2, decide_eq_true hA2⟩
        clear y1 y2 hO hA2
        have c16 := K1.last
        have HV3 := Lib.hid (HKR.out x3 HB.out)
        have hs3 := K2.lt
        go_wp2_with ((with_reducible show wpList _ _ _ (Oper.mk _ (Op.load 34 _) _ _ _ _ :: _) _ _); refine loadRp (K1) rfl rfl rfl ?_)
        refine (l11Cut_any f _ n n h _ HV3.out (Nat.le_refl _) hn).mono ?_
        rintro e y1 ⟨a, c, rfl, ho, hb⟩
        have T1 := T1.below hb T1.lt
        have K2 := K2.below hb K2.lt
        have HB : Hid (Below w.heap.size w y1) := HB.out.trans (hb.mono HB.out.size)
        have OC : OwnT y1 (w.heap.size + 3) (.slice a n c) n h := ho.wide (by omega)
        clear hb ho c16 hs3
        have hs4 := K2.lt
        have hOC1 := fun k e => (OC.lt k e).2
        have T1 := T1.alloc (.cells (rpl f (.slice a n c)) 34)
        have K2 := K2.alloc (.cells (rpl f (.slice a n c)) 34)
        have K12 := Rp.new y1 f (.slice a n c) 34
        have HB : Hid (Below w.heap.size w (y1.alloc (.cells (rpl f (.slice a n c)) 34))) := HB.out.alloc HB.out.size _
        have OC := OC.alloc (.cells (rpl f (.slice a n c)) 34)
        have c16 := K12.last
        generalize hb12 : y1.heap.size = b12 at *
        have H12 : Hid (∀ k, (Value.slice a n c).ownBlock = some k → k ≠ b12) := fun k e => by have := hOC1 k e; omega
        clear hOC1
        go_wp2_with (first | ((with_reducible show wpList _ _ _ (Oper.mk _ (Op.load 49 _) _ _ _ _ :: _) _ _); refine loadT (T1) rfl rfl rfl ?_) | ((with_reducible show wpList _ _ _ (Oper.mk _ (Op.buildSlice _ 1 _) _ _ _ _ :: _) _ _); refine wpl_buildT _ rfl rfl (f := t) rfl ?_) | (at_builtin; refine wpl_app (v := .slice a n c) rfl _ _ 32 rfl (w.heap.size + 3) 49 i0 _ 4 32 Try.underlying32 hi hz0 hz1 hz2 rfl (by decide) rfl (OC.alloc (.cells (mk 4 t) 49)) _ 0 1 1 t 4 rfl (Blk.new _ _ _ _).at (by omega) (by unfold maxLen; omega) (by omega) (by have := HB.out.size; simp; omega) ?_))
        intro v' y2 R hbl hgr hloc
        have OD : OwnT y2 (w.heap.size + 3) v' (n + 1) (addH h n t) := by
          have e := addH_lit h t n
          simp only [Nat.one_mul, Nat.zero_add] at e R
          rw [e] at R
          exact R
        have K12 := Rp.grown (K12.alloc (.cells (mk 4 t) 49)) hgr (fun e => H12.out _ e rfl)
        have K2 := (K2.alloc (.cells (mk 4 t) 49)).below hbl (by omega)
        have HB : Hid (Below w.heap.size w y2) := (HB.out.alloc HB.out.size _).trans (hbl.mono (by omega))
        have hne' : v'.ownBlock ≠ some b12 := by
          intro e
          rcases hloc with r | r
          · rw [r] at e; exact H12.out _ e rfl
          · rw [r] at e
            have q := Option.some.inj e
            try simp only [World.size_alloc] at q
            omega
        clear hbl hgr hloc R OC T1 c16
        obtain ⟨a', c', rfl⟩ := OD.form
        have d16 := K12.last
        have f16 := K12.free 16
        have K12s := K12.set (.slice a' (n + 1) c')
        have K2s := K2.setOther ⟨b12, 16, none⟩ (.slice a' (n + 1) c') (by dsimp only; omega)
        have ODs : OwnT (y2.setCell ⟨b12, 16, none⟩ (.slice a' (n + 1) c')) (w.heap.size + 3) (.slice a' (n + 1) c') (n + 1) (addH h n t) := World.ownsRow.kept OD (grown_cellAt y2 ⟨b12, 16, none⟩ _) (Or.inr hne')
        have HBs : Hid (Below w.heap.size w (y2.setCell ⟨b12, 16, none⟩ (.slice a' (n + 1) c'))) := HB.out.setCell (by dsimp only; omega) _
        have ODf : OwnT ((y2.setCell ⟨b12, 16, none⟩ (.slice a' (n + 1) c')).setRow (w.heap.size + 2) (rpl f (.slice a' (n + 1) c'))) (w.heap.size + 3) (.slice a' (n + 1) c') (n + 1) (addH h n t) := ODs.kept (grown_rp K2s _) (fun q => by have := (ODs.lt _ q).1; omega)
        have HBf : Hid (Below w.heap.size w ((y2.setCell ⟨b12, 16, none⟩ (.slice a' (n + 1) c')).setRow (w.heap.size + 2) (rpl f (.slice a' (n + 1) c')))) := below_setRow HBs.out (by omega) _
        clear hne' OD ODs
        go_wp2_with (first | ((with_reducible show wpList _ _ _ (Oper.mk _ (Op.load 34 _) _ _ _ _ :: _) _ _); refine loadRp (K12s) rfl rfl rfl ?_) | ((with_reducible show wpList _ _ _ (Oper.mk _ (Op.store 34 _ _) _ _ _ _ :: _) _ _); refine storeRp (K2s) (by rfl) rfl rfl rfl rfl ?_))
        try simp only [Exit.inBlock, Exit.then]
        refine retRpT (K2s.row _ _) rfl rfl rfl ?_
        rw [HY.out.1, HY.out.2.1, HY.out.2.2]
        exact ⟨_, _, rfl, ODf.wide (by omega), HBf.out⟩
    · have hl : (40 : Int) ≤ (n : Int) := by omega
      have hA2 : ¬ addOk f h n t := fun q => hlt q.2.1
      obtain ⟨y1, y2⟩ := ad_no hA2
      have HY : Hid (adF f h n t = (fun _ => 0) ∧ adN f h n t = 0 ∧ decide (addOk f h n t) = false) := ⟨y1, y2, decide_eq_false hA2⟩
      clear y1 y2
      go_enter Try.func25, Try.ntmps25
      go_wp2_with ((with_reducible show wpList _ _ _ (Oper.mk _ (Op.load 34 _) _ _ _ _ :: _) _ _); refine loadRp (K1) rfl rfl rfl ?_)
      refine HCon.out.mono ?_
      clear HCon
      rintro e w1 ⟨u, rfl, ⟨gb, cb, rfl⟩, ho, hb⟩
      have K1 := K1.below hb K1.lt
      have T1 := T1.below hb T1.lt
      have K2 := K2.below hb K2.lt
      have HV := Lib.hid (HV.out.below hb)
      have HB : Hid (Below w.heap.size w w1) := HB.out.trans (hb.mono HB.out.size)
      have c16 := K1.last
      clear hb ho HV
      have HB2 : Hid (Below w.heap.size w (w1.setRow (w.heap.size + 2) (rpl (fun _ => 0) (.slice none 0 0)))) := below_setRow HB.out (by omega) _
      go_wp2_with ((with_reducible show wpList _ _ _ (Oper.mk _ (Op.store 34 _ _) _ _ _ _ :: _) _ _); refine storeRp (K2) (by rfl) rfl rfl rfl rfl ?_)
      try simp only [Exit.inBlock, Exit.then]
      refine retRpT (K2.row _ _) rfl rfl rfl ?_
      rw [HY.out.1, HY.out.2.1, HY.out.2.2]
      exact ⟨none, 0, rfl, OwnT.none _ _ _, HB2.out⟩
  · have hA2 : ¬ addOk f h n t := fun q => hR q.1
    obtain ⟨y1, y2⟩ := ad_no hA2
    have HY : Hid (adF f h n t = (fun _ => 0) ∧ adN f h n t = 0 ∧ decide (addOk f h n t) = false) := ⟨y1, y2, decide_eq_false hA2⟩
    clear y1 y2
    rw [rplO_no hR] at HCon
    have HCon := Lib.hid HCon
    clear hR
    go_enter Try.func25, Try.ntmps25
    go_wp2_with ((with_reducible show wpList _ _ _ (Oper.mk _ (Op.load 34 _) _ _ _ _ :: _) _ _); refine loadRp (K1) rfl rfl rfl ?_)
    refine HCon.out.mono ?_
    clear HCon
    rintro e w1 ⟨u, rfl, ⟨gb, cb, rfl⟩, ho, hb⟩
    have K1 := K1.below hb K1.lt
    have T1 := T1.below hb T1.lt
    have K2 := K2.below hb K2.lt
    have HV := Lib.hid (HV.out.below hb)
    have HB : Hid (Below w.heap.size w w1) := HB.out.trans (hb.mono HB.out.size)
    have c16 := K1.last
    clear hb ho HV
    have HB2 : Hid (Below w.heap.size w (w1.setRow (w.heap.size + 2) (rpl (fun _ => 0) (.slice none 0 0)))) := below_setRow HB.out (by omega) _
    go_wp2_with ((with_reducible show wpList _ _ _ (Oper.mk _ (Op.store 34 _ _) _ _ _ _ :: _) _ _); refine storeRp (K2) (by rfl) rfl rfl rfl rfl ?_)
    try simp only [Exit.inBlock, Exit.then]
    refine retRpT (K2.row _ _) rfl rfl rfl ?_
    rw [HY.out.1, HY.out.2.1, HY.out.2.2]
    exact ⟨none, 0, rfl, OwnT.none _ _ _, HB2.out⟩
end Go.Proofs.Ytekdodlkimgbhaa
