/-
  The contract of the program's bestMove, for any function that is told of a slide: the first direction of a move for which a fraction is the greatest.
-/
import Derived.Test.YtkocfpldgjfpeaaFracKit
import Derived.Test.YtkocfpldgjfpeaaRowsKit
namespace Go.Proofs.Ytkocfpldgjfpeaa
open Go.RowKit Plain
attribute [local go_sem] store_new
set_option linter.unusedVariables false
set_option linter.unusedSimpArgs false
theorem loadSB9 {ops : Array Oper} {rest : List Oper} {o : Oper} {a : Act} {w : World} {Q : Exit → Act → World → Prop} {x : Operand} {b d : Nat} {f : Nat → Int} {t : TypeId}
    (hg : Blk w b 18 (slideV f d) t) (hgd : o.guard = none) (ho : o.op = .load 29 x) (hx : a.eval x = .pointer (some ⟨b, 0, none⟩))
    (h : wpList Try.prog ops Q rest (a.put o.dst (.agg (mk 16 (slideB f d)))) w) : wpList Try.prog ops Q (o :: rest) a w := by
  refine loadPB hg (by decide) hgd ho hx ?_
  have e : mk 16 (fun i => slideV f d (0 + i)) = mk 16 (slideB f d) := mk_congr fun i hi => by rw [Nat.zero_add]; unfold slideV; rw [if_pos hi]
  rw [e]
  exact h
def sameF9 (f g : Nat → Int) : Bool := (List.range 2).all fun c => f c == g c
theorem eqF (d : Nat) (f g : Nat → Int) (w : World) : (Op.equalIn (d + 2) 53 (.agg (mk 2 f)) (.agg (mk 2 g))).run Try.prog w = .ok (sameF9 f g) w := by
  cases hq : Try.prog.info? 3 with
  | none => have := size1; simp [hq] at this
  | some i =>
    rw [run_equalIn_array w (d + 1) (mk 2 f) (mk 2 g) Try.underlying53 hq, cells1]
    exact items_all _ _ _ _ _ _ (fun c => .int .i64 (f c)) (fun c => .int .i64 (g c)) (fun c => f c == g c) _ fun c hc => by
      have hc4 : c < 2 := List.mem_range.1 hc
      exact ⟨part_int Try.underlying3 f hc4 w, part_int Try.underlying3 g hc4 w, run_equalIn_int w d _ _ _ _ _ Try.underlying3⟩
theorem sameF9_fc (p q : Fc) : sameF9 (fcF p) (fcF q) = decide (p = q) := by
  obtain ⟨a, b⟩ := p
  obtain ⟨c, d⟩ := q
  have e : sameF9 (fcF (a, b)) (fcF (c, d)) = (((a : Int) == (c : Int)) && ((b : Int) == (d : Int))) := by
    show (((a : Int) == (c : Int)) && ((((b : Int) == (d : Int))) && true)) = _
    rw [Bool.and_true]
  rw [e, Bool.eq_iff_iff]
  simp
  omega
theorem execF9 {o : Oper} {ev : Operand → Value} {w : World} {b : Nat} {f : Nat → Int} {t : TypeId} {x : Operand} (hg : Blk w b 2 f t) (ho : o.op = .load 53 x) (hx : ev x = .pointer (some ⟨b, 0, none⟩)) :
    (execOp ev o).run Try.prog w = .ok (.value (.agg (mk 2 f))) w := exec_load_blk _ x ho hx hg Try.underlying53 rfl sizeF
theorem loadgF {ops : Array Oper} {rest : List Oper} {o : Oper} {a : Act} {w : World} {Q : Exit → Act → World → Prop} {x : Operand} {b : Nat} {f : Nat → Int} {t : TypeId}
    (hg : Blk w b 2 f t) (hw : Region.wanted o (yielded ops a.tmps) = true) (ho : o.op = .load 53 x) (hx : a.eval x = .pointer (some ⟨b, 0, none⟩))
    (h : wpList Try.prog ops Q rest (a.put o.dst (.agg (mk 2 f))) w) : wpList Try.prog ops Q (o :: rest) a w :=
  wpList_load_guarded hw _ x ho b 2 f t _ hx hg Try.underlying53 rfl sizeF h
theorem fc_mul {a b : Nat} (ha : a ≤ 2147483648) (hb : b ≤ 2147483648) : a * b ≤ 4611686018427387904 := by
  have := Nat.mul_le_mul ha hb
  omega
/-- What the loop of bestMove knows of the greatest so far. -/
theorem bm_bd {f : Nat → Int} {V : Nat → Fc} (hb : ∀ d, d < 4 → isMv f d = true → FcOk (V d) ∧ (V d).1 ≤ 2147483648 ∧ (V d).2 ≤ 2147483648) (k : Nat) (hk : k ≤ 4) : (bmF f V k).v.1 ≤ 2147483648 ∧ (bmF f V k).v.2 ≤ 2147483648 :=
  bm_all (P := fun p => p.1 ≤ 2147483648 ∧ p.2 ≤ 2147483648) (by decide) k fun d hd hm => (hb d (by omega) hm).2
set_option maxHeartbeats 2000000 in
set_option maxRecDepth 20000 in
theorem bestMove_any (f : Nat → Int) (V : Nat → Fc) (e : Fc) (cf : Nat) (pre lb : Array Value) (w : World) (hV : Vd f)
    (hb : ∀ d, d < 4 → isMv f d = true → FcOk (V d) ∧ (V d).1 ≤ 2147483648 ∧ (V d).2 ≤ 2147483648) (he : ∀ d, d < 4 → isMv f d = true → ltF e (V d) = false)
    (eg : ∀ args w, (callFunc cf args).run Try.prog w = .ok (.enter cf args) w)
    (HC : ∀ (d : Nat) (W : World), d < 4 → isMv f d = true → Below w.heap.size w W → Calls Try.prog cf (pre ++ #[.agg (mk 18 (slideV f d))] ++ lb) W fun e w' => e = .returned (.agg (mk 2 (fcF (V d)))) ∧ Below W.heap.size W w') :
    Calls Try.prog 51 #[.agg (mk 16 f), .func (.func cf) pre lb, .agg (mk 2 (fcF e))] w fun e w' => e = .returned (.tuple #[.int .i64 ((bmF f V 4).d : Int), .agg (mk 2 (fcF (bmF f V 4).v)), .bool (bmF f V 4).ok]) ∧ Below w.heap.size w w' := by
  have z2 := zero2
  have z16 := zero16
  have z18 := zero18
  have K3 := ((Blk.new w 16 f 29).alloc (.cells (mk 2 (fcF e)) 53)).alloc (.cells (mk 2 fun _ => 0) 53)
  have K5 := (Blk.new (w.alloc (.cells (mk 16 f) 29)) 2 (fcF e) 53).alloc (.cells (mk 2 fun _ => 0) 53)
  have K7 := Blk.new ((w.alloc (.cells (mk 16 f) 29)).alloc (.cells (mk 2 (fcF e)) 53)) 2 (fun _ => 0) 53
  have HB := Lib.hid ((((Below.refl w.heap.size w).alloc (Nat.le_refl _) (.cells (mk 16 f) 29)).alloc (by simp) (.cells (mk 2 (fcF e)) 53)).alloc (by simp; omega) (.cells (mk 2 fun _ => 0) 53))
  simp only [World.size_alloc] at K3 K5 K7
  have HV := Lib.hid hV
  have HCC := Lib.hid HC
  have HBD := Lib.hid hb
  have HBM := Lib.hid (fun k hk => bm_bd hb k hk)
  have HST := Lib.hid (fun k (hk : k ≤ 4) (hok : (bmF f V k).ok = true) (hv : (bmF f V k).v = e) => show bmF f V 4 = bmF f V k by
    have := bm_stop he hok hv (4 - k) (by omega)
    rwa [show k + (4 - k) = 4 by omega] at this)
  clear hV HC hb he
  have iE : ∀ (f g : Nat → Int) (w : World), (Op.equalIn 10000 29 (.agg (mk 16 f)) (.agg (mk 16 g))).run Try.prog w = .ok (sameB f g) w := eqB 9996
  have iF : ∀ (p q : Fc) (w : World), (Op.equalIn 10000 53 (.agg (mk 2 (fcF p))) (.agg (mk 2 (fcF q)))).run Try.prog w = .ok (decide (p = q)) w := fun p q w => by rw [eqF 9998, sameF9_fc]
  go_enter Try.func51, Try.ntmps51
  go_wp2_with fail
  go_step3
  go_wp2_with fail
  refine (whole_any _ 0 _ rfl).mono ?_
  rintro _ w2 ⟨rfl, hb⟩
  have K3 := (K3.below hb K3.lt).alloc (.cells (mk 2 (fcF (0, 1))) 53)
  have K5 := (K5.below hb K5.lt).alloc (.cells (mk 2 (fcF (0, 1))) 53)
  have hq : w.heap.size + 1 + 1 < w2.heap.size := (K7.below hb K7.lt).lt
  have K7 := (K7.below hb K7.lt).alloc (.cells (mk 2 (fcF (0, 1))) 53)
  have K10 : Blk (w2.alloc (.cells (mk 2 (fcF (0, 1))) 53)) w2.heap.size 2 (fcF bm0.v) 53 := Blk.new w2 2 (fcF (0, 1)) 53
  have HB : Hid (Below w.heap.size w w2) := HB.out.trans (hb.mono HB.out.size)
  have HB : Hid (Below w.heap.size w (w2.alloc (.cells (mk 2 (fcF (0, 1))) 53))) := HB.out.alloc HB.out.size _
  clear hb
  go_wp2_with fail
  go_step3
  go_wp2_with fail
  generalize w2.alloc (.cells (mk 2 (fcF (0, 1))) 53) = w3 at *
  generalize w2.heap.size = q at *
  go_loopg [9, 11, 16] 4 (fun gk s9 s11 s16 wr => ∃ (k : Nat) (S : Bm), k + gk = 4 ∧ s16 = .int .i64 k ∧ Hid (S = bmF f V k) ∧ s9 = .int .i64 (S.d : Int) ∧ s11 = .bool S.ok ∧ Blk wr w.heap.size 16 f 29 ∧ Blk wr (w.heap.size + 1) 2 (fcF e) 53 ∧ Blk wr (w.heap.size + 1 + 1) 2 (fun _ => 0) 53 ∧ Blk wr q 2 (fcF S.v) 53 ∧ Hid (Below w.heap.size w wr))
  case atStart => exact ⟨0, bm0, by omega, rfl, rfl, rfl, rfl, K3, K5, K7, K10, HB⟩
  case round =>
    obtain ⟨k, S, hkg, rfl, HS, rfl, rfl, K3, K5, K7, K10, HB⟩ := hrel
    cases gk with
    | zero =>
      have hk : ¬ ((k : Int) < 4) := by omega
      obtain rfl : k = 4 := by omega
      clear hkg hk
      have HE : Hid (bmF f V 4 = S) := HS.out.symm
      go_wp2_with fail
      refine wp_region_held_drew (S := fun W => (∃ g, Blk W (w.heap.size + 1 + 1) 2 g 53) ∧ Blk W q 2 (fcF S.v) 53) (by kernel_rfl) (⟨⟨_, K7.drew⟩, K10.drew⟩) (fun hHeld => ?_)
      have K7 : Blk wr.drew (w.heap.size + 1 + 1) 2 (fun _ => 0) 53 := K7.drew
      have K10 : Blk wr.drew q 2 (fcF S.v) 53 := K10.drew
      have HB : Hid (Below w.heap.size w wr.drew) := HB.out.drew
      generalize wr.drew = x0 at *
      refine wpAnyH_take (i := 0) (oi := { dst := some 42, op := _, type := _, pos := _, after := _, guard := _ }) (v := .int .i64 (S.d : Int)) rfl (by kernel_rfl) (by kernel_rfl) (by kernel_rfl) (fun _ _ _ h => h) (Or.inl ⟨by rfl, by intro w hSw; clear hSw; go_simp; (try with_reducible rfl)⟩) (by assumption) ?_
      try simp only [Act.put, List.setIfInBounds_toArray, List.set_cons_zero, List.set_cons_succ]
      refine wpAnyH_take (i := 1) (oi := { dst := some 43, op := _, type := _, pos := _, after := _, guard := _ }) (v := .agg (mk 2 (fcF S.v))) rfl (by kernel_rfl) (by kernel_rfl) (by kernel_rfl) (fun _ _ _ h => h) (Or.inl ⟨by rfl, fun _ q => execF9 q.2 rfl rfl⟩) (by assumption) ?_
      try simp only [Act.put, List.setIfInBounds_toArray, List.set_cons_zero, List.set_cons_succ]
      refine wpAnyH_take (i := 2) (oi := { dst := some 44, op := _, type := _, pos := _, after := _, guard := _ }) (v := .bool S.ok) rfl (by kernel_rfl) (by kernel_rfl) (by kernel_rfl) (fun _ _ _ h => h) (Or.inl ⟨by rfl, by intro w hSw; clear hSw; go_simp; (try with_reducible rfl)⟩) (by assumption) ?_
      try simp only [Act.put, List.setIfInBounds_toArray, List.set_cons_zero, List.set_cons_succ]
      refine wpAnyH_take (i := 3) (oi := { dst := some 6, op := _, type := _, pos := _, after := _, guard := _ }) (v := .int .i64 (S.d : Int)) rfl (by kernel_rfl) (by kernel_rfl) (by kernel_rfl) (fun _ _ _ h => h) (Or.inl ⟨by rfl, by intro w hSw; clear hSw; go_simp; (try with_reducible rfl)⟩) (by assumption) ?_
      try simp only [Act.put, List.setIfInBounds_toArray, List.set_cons_zero, List.set_cons_succ]
      refine wpAnyH_ready (rs := [4]) (by kernel_rfl) (by simp) ?_
      refine AllReadyH.cons rfl (fun K hK => ?_) AllReadyH.nil
      have st1 := run_store_blk (P := Try.prog) (g := fcF S.v) K7
      have ms1 : (mk 2 (fcF S.v)).size = 2 := mk_size 2 _
      go_simp
      clear st1 ms1 hHeld
      have K10 := K10.rowOther (w.heap.size + 1 + 1) (mk 2 (fcF S.v)) (by omega)
      have HB : Hid (Below w.heap.size w (x0.setRow (w.heap.size + 1 + 1) (mk 2 (fcF S.v)))) := below_setRow HB.out (by omega) _
      have K7 := K7.row 2 (fcF S.v)
      generalize x0.setRow (w.heap.size + 1 + 1) (mk 2 (fcF S.v)) = x1 at *
      refine hK.out _ _ ⟨⟨_, K7⟩, K10⟩ (fun hHeld => ?_)
      clear hK K
      try simp only [Act.put, List.setIfInBounds_toArray, List.set_cons_zero, List.set_cons_succ]
      refine wpAnyH_take (i := 5) (oi := { dst := some 8, op := _, type := _, pos := _, after := _, guard := _ }) (v := .bool S.ok) rfl (by kernel_rfl) (by kernel_rfl) (by kernel_rfl) (fun _ _ _ h => h) (Or.inl ⟨by rfl, by intro w hSw; clear hSw; go_simp; (try with_reducible rfl)⟩) (by assumption) ?_
      try simp only [Act.put, List.setIfInBounds_toArray, List.set_cons_zero, List.set_cons_succ]
      refine wpAnyH_done (by kernel_rfl) ?_ _
      clear hHeld
      go_wp2_with fail
      try simp only [Exit.inBlock, Exit.then, Exit.noGoto]
      exact ret_tct Try.underlying53 rfl sizeF rfl rfl rfl K7 ⟨by rw [HE.out] <;> rfl, HB.out⟩
    | succ gk2 =>
      have hk8 : (k : Int) < 4 := by omega
      have hk0 : (0 : Int) ≤ (k : Int) := by omega
      have hk3 : (k : Int) ≤ 3 := by omega
      have hk4 : k < 4 := by omega
      go_wp2_with ((with_reducible show wpList _ _ _ (Oper.mk _ (Op.load 29 _) _ _ _ _ :: _) _ _); refine loadB (K3) rfl rfl rfl ?_)
      refine (slideTo_nat f k _ HV.out hk0 hk3).mono ?_
      rintro _ w4 ⟨rfl, hb⟩
      have hq4 : q < w4.heap.size := (K10.below hb K10.lt).lt
      have K3 := (K3.below hb K3.lt).alloc (.cells (mk 18 (slideV f k)) 64)
      have K5 := (K5.below hb K5.lt).alloc (.cells (mk 18 (slideV f k)) 64)
      have K7 := (K7.below hb K7.lt).alloc (.cells (mk 18 (slideV f k)) 64)
      have K10 := (K10.below hb K10.lt).alloc (.cells (mk 18 (slideV f k)) 64)
      have K13 := Blk.new w4 18 (slideV f k) 64
      have HB : Hid (Below w.heap.size w w4) := HB.out.trans (hb.mono HB.out.size)
      have HB : Hid (Below w.heap.size w (w4.alloc (.cells (mk 18 (slideV f k)) 64))) := HB.out.alloc HB.out.size _
      clear hb
      by_cases hm : isMv f k = true
      · have hq2 : sameB (slideB f k) f = false := by simpa [isMv] using hm
        have HM := Lib.hid hm
        have HCK := Lib.hid (fun W (hB : Below w.heap.size w W) => HCC.out k W hk4 hm hB)
        obtain ⟨hv0, hv1, hv2⟩ := HBD.out k hk4 hm
        obtain ⟨hs1, hs2⟩ := HBM.out k (by omega)
        rw [← HS.out] at hs1 hs2
        have HLS := Lib.hid (fun w => isLess_any S.v (V k) w (fc_mul hs1 hv2) (fc_mul hv1 hs2))
        clear hm hv0 hv1 hv2 hs1 hs2
        go_wp2_with (first | ((with_reducible show wpList _ _ _ (Oper.mk _ (Op.load 29 _) _ _ _ _ :: _) _ _); refine loadSB9 K13 rfl rfl rfl ?_) | ((with_reducible show wpList _ _ _ (Oper.mk _ (Op.load 29 _) _ _ _ _ :: _) _ _); refine loadB (K3) rfl rfl rfl ?_) | ((with_reducible show wpList _ _ _ (Oper.mk _ (Op.load 64 _) _ _ _ _ :: _) _ _); refine loadS (K13) rfl rfl rfl ?_))
        refine (HCK.out _ HB.out).mono ?_
        rintro _ w5 ⟨rfl, hb⟩
        have hq5 : q < w5.heap.size := (K10.below hb K10.lt).lt
        have K3 := (K3.below hb K3.lt).alloc (.cells (mk 2 (fcF (V k))) 53)
        have K5 := (K5.below hb K5.lt).alloc (.cells (mk 2 (fcF (V k))) 53)
        have K7 := (K7.below hb K7.lt).alloc (.cells (mk 2 (fcF (V k))) 53)
        have K10 := (K10.below hb K10.lt).alloc (.cells (mk 2 (fcF (V k))) 53)
        have K13 := (K13.below hb K13.lt).alloc (.cells (mk 2 (fcF (V k))) 53)
        have K14 := Blk.new w5 2 (fcF (V k)) 53
        have HB : Hid (Below w.heap.size w w5) := HB.out.trans (hb.mono HB.out.size)
        have HB : Hid (Below w.heap.size w (w5.alloc (.cells (mk 2 (fcF (V k))) 53))) := HB.out.alloc HB.out.size _
        clear hb
        have HVK : Hid (∃ p, p = V k) := ⟨_, rfl⟩
        by_cases hbt : S.ok = false ∨ ltF S.v (V k) = true
        · have HN : Hid (bmF f V (k + 1) = ⟨k, V k, true⟩) := bm_yes HM.out (by rw [← HS.out]; exact hbt)
          by_cases hbo : S.ok = false
          · clear hbt
            rw [hbo]
            go_wp2_with (first | ((with_reducible show wpList _ _ _ (Oper.mk _ (Op.load 53 _) _ _ _ (some _) :: _) _ _); refine loadgF (K10) rfl rfl rfl ?_) | ((with_reducible show wpList _ _ _ (Oper.mk _ (Op.load 53 _) _ _ _ (some _) :: _) _ _); refine loadgF (K14) rfl rfl rfl ?_))
            generalize w5.alloc (.cells (mk 2 (fcF (V k))) 53) = w6 at *
            refine wp_region_held_drew (S := fun W => Blk W w5.heap.size 2 (fcF (V k)) 53) (by kernel_rfl) (K14.drew) (fun hHeld => ?_)
            have K3 := K3.drew
            have K5 := K5.drew
            have K7 := K7.drew
            have K10 := K10.drew
            have K14 := K14.drew
            have HB : Hid (Below w.heap.size w w6.drew) := HB.out.drew
            clear hHeld
            generalize w6.drew = x1 at *
            have hHeld : Blk x1 w5.heap.size 2 (fcF (V k)) 53 := K14
            refine wpAnyH_take (i := 0) (oi := { dst := some 36, op := _, type := _, pos := _, after := _, guard := _ }) (v := .int .i64 (k : Int)) rfl (by kernel_rfl) (by kernel_rfl) (by kernel_rfl) (fun _ _ _ h => h) (Or.inl ⟨by rfl, by intro w hSw; clear hSw; go_simp; (try with_reducible rfl)⟩) (by assumption) ?_
            try simp only [Act.put, List.setIfInBounds_toArray, List.set_cons_zero, List.set_cons_succ]
            refine wpAnyH_take (i := 1) (oi := { dst := some 37, op := _, type := _, pos := _, after := _, guard := _ }) (v := .agg (mk 2 (fcF (V k)))) rfl (by kernel_rfl) (by kernel_rfl) (by kernel_rfl) (fun _ _ _ h => h) (Or.inl ⟨by rfl, fun _ q => execF9 q rfl rfl⟩) (by assumption) ?_
            try simp only [Act.put, List.setIfInBounds_toArray, List.set_cons_zero, List.set_cons_succ]
            refine wpAnyH_take (i := 2) (oi := { dst := some 9, op := _, type := _, pos := _, after := _, guard := _ }) (v := .int .i64 (k : Int)) rfl (by kernel_rfl) (by kernel_rfl) (by kernel_rfl) (fun _ _ _ h => h) (Or.inl ⟨by rfl, by intro w hSw; clear hSw; go_simp; (try with_reducible rfl)⟩) (by assumption) ?_
            try simp only [Act.put, List.setIfInBounds_toArray, List.set_cons_zero, List.set_cons_succ]
            refine wpAnyH_ready (rs := [3]) (by kernel_rfl) (by simp) ?_
            refine AllReadyH.cons rfl (fun K hK => ?_) AllReadyH.nil
            have st1 := run_store_blk (P := Try.prog) (g := fcF (V k)) K10
            have ms1 : (mk 2 (fcF (V k))).size = 2 := mk_size 2 _
            go_simp
            clear st1 ms1 hHeld
            have K3 := K3.rowOther q (mk 2 (fcF (V k))) (by omega)
            have K5 := K5.rowOther q (mk 2 (fcF (V k))) (by omega)
            have K7 := K7.rowOther q (mk 2 (fcF (V k))) (by omega)
            have K14 := K14.rowOther q (mk 2 (fcF (V k))) (by omega)
            have HB : Hid (Below w.heap.size w (x1.setRow q (mk 2 (fcF (V k))))) := below_setRow HB.out (by omega) _
            have K10 : Blk (x1.setRow q (mk 2 (fcF (V k)))) q 2 (fcF (Bm.mk k (V k) true).v) 53 := K10.row 2 (fcF (V k))
            generalize x1.setRow q (mk 2 (fcF (V k))) = x2 at *
            refine hK.out _ _ K14 (fun hHeld => ?_)
            clear hK K
            try simp only [Act.put, List.setIfInBounds_toArray, List.set_cons_zero, List.set_cons_succ]
            refine wpAnyH_take (i := 4) (oi := { dst := some 11, op := _, type := _, pos := _, after := _, guard := _ }) (v := .bool true) rfl (by kernel_rfl) (by kernel_rfl) (by kernel_rfl) (fun _ _ _ h => h) (Or.inl ⟨by rfl, by intro w hSw; clear hSw; go_simp; (try with_reducible rfl)⟩) (by assumption) ?_
            try simp only [Act.put, List.setIfInBounds_toArray, List.set_cons_zero, List.set_cons_succ]
            refine wpAnyH_done (by kernel_rfl) ?_ _
            clear hHeld
            by_cases hst : (Bm.mk k (V k) true).v = e
            · have hd : decide ((Bm.mk k (V k) true).v = e) = true := decide_eq_true hst
              have HE : Hid (bmF f V 4 = (Bm.mk k (V k) true)) := by
                have h1 := HST.out (k + 1) (by omega)
                rw [HN.out] at h1
                exact h1 rfl hst
              clear hst
              go_wp2_with (first | ((with_reducible show wpList _ _ _ (Oper.mk _ (Op.load 53 _) _ _ _ _ :: _) _ _); refine loadF (K10) rfl rfl rfl ?_) | ((with_reducible show wpList _ _ _ (Oper.mk _ (Op.load 53 _) _ _ _ _ :: _) _ _); refine loadF (K5) rfl rfl rfl ?_))
              refine wp_region_held_drew (S := fun W => (∃ g, Blk W (w.heap.size + 1 + 1) 2 g 53) ∧ Blk W q 2 (fcF (Bm.mk k (V k) true).v) 53) (by kernel_rfl) (⟨⟨_, K7.drew⟩, K10.drew⟩) (fun hHeld => ?_)
              have K7 : Blk x2.drew (w.heap.size + 1 + 1) 2 (fun _ => 0) 53 := K7.drew
              have K10 : Blk x2.drew q 2 (fcF (Bm.mk k (V k) true).v) 53 := K10.drew
              have HB : Hid (Below w.heap.size w x2.drew) := HB.out.drew
              generalize x2.drew = x0 at *
              refine wpAnyH_take (i := 0) (oi := { dst := some 42, op := _, type := _, pos := _, after := _, guard := _ }) (v := .int .i64 ((Bm.mk k (V k) true).d : Int)) rfl (by kernel_rfl) (by kernel_rfl) (by kernel_rfl) (fun _ _ _ h => h) (Or.inl ⟨by rfl, by intro w hSw; clear hSw; go_simp; (try with_reducible rfl)⟩) (by assumption) ?_
              try simp only [Act.put, List.setIfInBounds_toArray, List.set_cons_zero, List.set_cons_succ]
              refine wpAnyH_take (i := 1) (oi := { dst := some 43, op := _, type := _, pos := _, after := _, guard := _ }) (v := .agg (mk 2 (fcF (Bm.mk k (V k) true).v))) rfl (by kernel_rfl) (by kernel_rfl) (by kernel_rfl) (fun _ _ _ h => h) (Or.inl ⟨by rfl, fun _ q => execF9 q.2 rfl rfl⟩) (by assumption) ?_
              try simp only [Act.put, List.setIfInBounds_toArray, List.set_cons_zero, List.set_cons_succ]
              refine wpAnyH_take (i := 2) (oi := { dst := some 44, op := _, type := _, pos := _, after := _, guard := _ }) (v := .bool (Bm.mk k (V k) true).ok) rfl (by kernel_rfl) (by kernel_rfl) (by kernel_rfl) (fun _ _ _ h => h) (Or.inl ⟨by rfl, by intro w hSw; clear hSw; go_simp; (try with_reducible rfl)⟩) (by assumption) ?_
              try simp only [Act.put, List.setIfInBounds_toArray, List.set_cons_zero, List.set_cons_succ]
              refine wpAnyH_take (i := 3) (oi := { dst := some 6, op := _, type := _, pos := _, after := _, guard := _ }) (v := .int .i64 ((Bm.mk k (V k) true).d : Int)) rfl (by kernel_rfl) (by kernel_rfl) (by kernel_rfl) (fun _ _ _ h => h) (Or.inl ⟨by rfl, by intro w hSw; clear hSw; go_simp; (try with_reducible rfl)⟩) (by assumption) ?_
              try simp only [Act.put, List.setIfInBounds_toArray, List.set_cons_zero, List.set_cons_succ]
              refine wpAnyH_ready (rs := [4]) (by kernel_rfl) (by simp) ?_
              refine AllReadyH.cons rfl (fun K hK => ?_) AllReadyH.nil
              have st1 := run_store_blk (P := Try.prog) (g := fcF (Bm.mk k (V k) true).v) K7
              have ms1 : (mk 2 (fcF (Bm.mk k (V k) true).v)).size = 2 := mk_size 2 _
              go_simp
              clear st1 ms1 hHeld
              have K10 := K10.rowOther (w.heap.size + 1 + 1) (mk 2 (fcF (Bm.mk k (V k) true).v)) (by omega)
              have HB : Hid (Below w.heap.size w (x0.setRow (w.heap.size + 1 + 1) (mk 2 (fcF (Bm.mk k (V k) true).v)))) := below_setRow HB.out (by omega) _
              have K7 := K7.row 2 (fcF (Bm.mk k (V k) true).v)
              generalize x0.setRow (w.heap.size + 1 + 1) (mk 2 (fcF (Bm.mk k (V k) true).v)) = x1 at *
              refine hK.out _ _ ⟨⟨_, K7⟩, K10⟩ (fun hHeld => ?_)
              clear hK K
              try simp only [Act.put, List.setIfInBounds_toArray, List.set_cons_zero, List.set_cons_succ]
              refine wpAnyH_take (i := 5) (oi := { dst := some 8, op := _, type := _, pos := _, after := _, guard := _ }) (v := .bool (Bm.mk k (V k) true).ok) rfl (by kernel_rfl) (by kernel_rfl) (by kernel_rfl) (fun _ _ _ h => h) (Or.inl ⟨by rfl, by intro w hSw; clear hSw; go_simp; (try with_reducible rfl)⟩) (by assumption) ?_
              try simp only [Act.put, List.setIfInBounds_toArray, List.set_cons_zero, List.set_cons_succ]
              refine wpAnyH_done (by kernel_rfl) ?_ _
              clear hHeld
              go_wp2_with fail
              try simp only [Exit.inBlock, Exit.then, Exit.noGoto]
              exact ret_tct Try.underlying53 rfl sizeF rfl rfl rfl K7 ⟨by rw [HE.out] <;> rfl, HB.out⟩

            · have hd : decide ((Bm.mk k (V k) true).v = e) = false := decide_eq_false hst
              clear hst
              go_wp2_with (first | ((with_reducible show wpList _ _ _ (Oper.mk _ (Op.load 53 _) _ _ _ _ :: _) _ _); refine loadF (K10) rfl rfl rfl ?_) | ((with_reducible show wpList _ _ _ (Oper.mk _ (Op.load 53 _) _ _ _ _ :: _) _ _); refine loadF (K5) rfl rfl rfl ?_))
              go_roundg gk2
              case rel => exact ⟨k + 1, (Bm.mk k (V k) true), by omega, by go_num, HN.out.symm, rfl, rfl, K3, K5, K7, K10, HB⟩
              case measure => omega
          · have hbl : ltF S.v (V k) = true := hbt.resolve_left hbo
            have hbo : S.ok = true := by simpa using hbo
            clear hbt
            rw [hbo]
            go_wp2_with (first | ((with_reducible show wpList _ _ _ (Oper.mk _ (Op.load 53 _) _ _ _ (some _) :: _) _ _); refine loadgF (K10) rfl rfl rfl ?_) | ((with_reducible show wpList _ _ _ (Oper.mk _ (Op.load 53 _) _ _ _ (some _) :: _) _ _); refine loadgF (K14) rfl rfl rfl ?_))
            refine (HLS.out _).mono ?_
            rintro _ w7 ⟨rfl, hb⟩
            have K3 := K3.below hb K3.lt
            have K5 := K5.below hb K5.lt
            have K7 := K7.below hb K7.lt
            have K10 := K10.below hb K10.lt
            have K14 := K14.below hb K14.lt
            have HB : Hid (Below w.heap.size w w7) := HB.out.trans (hb.mono HB.out.size)
            clear hb
            go_wp2_with fail
            refine wp_region_held_drew (S := fun W => Blk W w5.heap.size 2 (fcF (V k)) 53) (by kernel_rfl) (K14.drew) (fun hHeld => ?_)
            have K3 := K3.drew
            have K5 := K5.drew
            have K7 := K7.drew
            have K10 := K10.drew
            have K14 := K14.drew
            have HB : Hid (Below w.heap.size w w7.drew) := HB.out.drew
            clear hHeld
            generalize w7.drew = x1 at *
            have hHeld : Blk x1 w5.heap.size 2 (fcF (V k)) 53 := K14
            refine wpAnyH_take (i := 0) (oi := { dst := some 36, op := _, type := _, pos := _, after := _, guard := _ }) (v := .int .i64 (k : Int)) rfl (by kernel_rfl) (by kernel_rfl) (by kernel_rfl) (fun _ _ _ h => h) (Or.inl ⟨by rfl, by intro w hSw; clear hSw; go_simp; (try with_reducible rfl)⟩) (by assumption) ?_
            try simp only [Act.put, List.setIfInBounds_toArray, List.set_cons_zero, List.set_cons_succ]
            refine wpAnyH_take (i := 1) (oi := { dst := some 37, op := _, type := _, pos := _, after := _, guard := _ }) (v := .agg (mk 2 (fcF (V k)))) rfl (by kernel_rfl) (by kernel_rfl) (by kernel_rfl) (fun _ _ _ h => h) (Or.inl ⟨by rfl, fun _ q => execF9 q rfl rfl⟩) (by assumption) ?_
            try simp only [Act.put, List.setIfInBounds_toArray, List.set_cons_zero, List.set_cons_succ]
            refine wpAnyH_take (i := 2) (oi := { dst := some 9, op := _, type := _, pos := _, after := _, guard := _ }) (v := .int .i64 (k : Int)) rfl (by kernel_rfl) (by kernel_rfl) (by kernel_rfl) (fun _ _ _ h => h) (Or.inl ⟨by rfl, by intro w hSw; clear hSw; go_simp; (try with_reducible rfl)⟩) (by assumption) ?_
            try simp only [Act.put, List.setIfInBounds_toArray, List.set_cons_zero, List.set_cons_succ]
            refine wpAnyH_ready (rs := [3]) (by kernel_rfl) (by simp) ?_
            refine AllReadyH.cons rfl (fun K hK => ?_) AllReadyH.nil
            have st1 := run_store_blk (P := Try.prog) (g := fcF (V k)) K10
            have ms1 : (mk 2 (fcF (V k))).size = 2 := mk_size 2 _
            go_simp
            clear st1 ms1 hHeld
            have K3 := K3.rowOther q (mk 2 (fcF (V k))) (by omega)
            have K5 := K5.rowOther q (mk 2 (fcF (V k))) (by omega)
            have K7 := K7.rowOther q (mk 2 (fcF (V k))) (by omega)
            have K14 := K14.rowOther q (mk 2 (fcF (V k))) (by omega)
            have HB : Hid (Below w.heap.size w (x1.setRow q (mk 2 (fcF (V k))))) := below_setRow HB.out (by omega) _
            have K10 : Blk (x1.setRow q (mk 2 (fcF (V k)))) q 2 (fcF (Bm.mk k (V k) true).v) 53 := K10.row 2 (fcF (V k))
            generalize x1.setRow q (mk 2 (fcF (V k))) = x2 at *
            refine hK.out _ _ K14 (fun hHeld => ?_)
            clear hK K
            try simp only [Act.put, List.setIfInBounds_toArray, List.set_cons_zero, List.set_cons_succ]
            refine wpAnyH_take (i := 4) (oi := { dst := some 11, op := _, type := _, pos := _, after := _, guard := _ }) (v := .bool true) rfl (by kernel_rfl) (by kernel_rfl) (by kernel_rfl) (fun _ _ _ h => h) (Or.inl ⟨by rfl, by intro w hSw; clear hSw; go_simp; (try with_reducible rfl)⟩) (by assumption) ?_
            try simp only [Act.put, List.setIfInBounds_toArray, List.set_cons_zero, List.set_cons_succ]
            refine wpAnyH_done (by kernel_rfl) ?_ _
            clear hHeld
            by_cases hst : (Bm.mk k (V k) true).v = e
            · have hd : decide ((Bm.mk k (V k) true).v = e) = true := decide_eq_true hst
              have HE : Hid (bmF f V 4 = (Bm.mk k (V k) true)) := by
                have h1 := HST.out (k + 1) (by omega)
                rw [HN.out] at h1
                exact h1 rfl hst
              clear hst
              go_wp2_with (first | ((with_reducible show wpList _ _ _ (Oper.mk _ (Op.load 53 _) _ _ _ _ :: _) _ _); refine loadF (K10) rfl rfl rfl ?_) | ((with_reducible show wpList _ _ _ (Oper.mk _ (Op.load 53 _) _ _ _ _ :: _) _ _); refine loadF (K5) rfl rfl rfl ?_))
              refine wp_region_held_drew (S := fun W => (∃ g, Blk W (w.heap.size + 1 + 1) 2 g 53) ∧ Blk W q 2 (fcF (Bm.mk k (V k) true).v) 53) (by kernel_rfl) (⟨⟨_, K7.drew⟩, K10.drew⟩) (fun hHeld => ?_)
              have K7 : Blk x2.drew (w.heap.size + 1 + 1) 2 (fun _ => 0) 53 := K7.drew
              have K10 : Blk x2.drew q 2 (fcF (Bm.mk k (V k) true).v) 53 := K10.drew
              have HB : Hid (Below w.heap.size w x2.drew) := HB.out.drew
              generalize x2.drew = x0 at *
              refine wpAnyH_take (i := 0) (oi := { dst := some 42, op := _, type := _, pos := _, after := _, guard := _ }) (v := .int .i64 ((Bm.mk k (V k) true).d : Int)) rfl (by kernel_rfl) (by kernel_rfl) (by kernel_rfl) (fun _ _ _ h => h) (Or.inl ⟨by rfl, by intro w hSw; clear hSw; go_simp; (try with_reducible rfl)⟩) (by assumption) ?_
              try simp only [Act.put, List.setIfInBounds_toArray, List.set_cons_zero, List.set_cons_succ]
              refine wpAnyH_take (i := 1) (oi := { dst := some 43, op := _, type := _, pos := _, after := _, guard := _ }) (v := .agg (mk 2 (fcF (Bm.mk k (V k) true).v))) rfl (by kernel_rfl) (by kernel_rfl) (by kernel_rfl) (fun _ _ _ h => h) (Or.inl ⟨by rfl, fun _ q => execF9 q.2 rfl rfl⟩) (by assumption) ?_
              try simp only [Act.put, List.setIfInBounds_toArray, List.set_cons_zero, List.set_cons_succ]
              refine wpAnyH_take (i := 2) (oi := { dst := some 44, op := _, type := _, pos := _, after := _, guard := _ }) (v := .bool (Bm.mk k (V k) true).ok) rfl (by kernel_rfl) (by kernel_rfl) (by kernel_rfl) (fun _ _ _ h => h) (Or.inl ⟨by rfl, by intro w hSw; clear hSw; go_simp; (try with_reducible rfl)⟩) (by assumption) ?_
              try simp only [Act.put, List.setIfInBounds_toArray, List.set_cons_zero, List.set_cons_succ]
              refine wpAnyH_take (i := 3) (oi := { dst := some 6, op := _, type := _, pos := _, after := _, guard := _ }) (v := .int .i64 ((Bm.mk k (V k) true).d : Int)) rfl (by kernel_rfl) (by kernel_rfl) (by kernel_rfl) (fun _ _ _ h => h) (Or.inl ⟨by rfl, by intro w hSw; clear hSw; go_simp; (try with_reducible rfl)⟩) (by assumption) ?_
              try simp only [Act.put, List.setIfInBounds_toArray, List.set_cons_zero, List.set_cons_succ]
              refine wpAnyH_ready (rs := [4]) (by kernel_rfl) (by simp) ?_
              refine AllReadyH.cons rfl (fun K hK => ?_) AllReadyH.nil
              have st1 := run_store_blk (P := Try.prog) (g := fcF (Bm.mk k (V k) true).v) K7
              have ms1 : (mk 2 (fcF (Bm.mk k (V k) true).v)).size = 2 := mk_size 2 _
              go_simp
              clear st1 ms1 hHeld
              have K10 := K10.rowOther (w.heap.size + 1 + 1) (mk 2 (fcF (Bm.mk k (V k) true).v)) (by omega)
              have HB : Hid (Below w.heap.size w (x0.setRow (w.heap.size + 1 + 1) (mk 2 (fcF (Bm.mk k (V k) true).v)))) := below_setRow HB.out (by omega) _
              have K7 := K7.row 2 (fcF (Bm.mk k (V k) true).v)
              generalize x0.setRow (w.heap.size + 1 + 1) (mk 2 (fcF (Bm.mk k (V k) true).v)) = x1 at *
              refine hK.out _ _ ⟨⟨_, K7⟩, K10⟩ (fun hHeld => ?_)
              clear hK K
              try simp only [Act.put, List.setIfInBounds_toArray, List.set_cons_zero, List.set_cons_succ]
              refine wpAnyH_take (i := 5) (oi := { dst := some 8, op := _, type := _, pos := _, after := _, guard := _ }) (v := .bool (Bm.mk k (V k) true).ok) rfl (by kernel_rfl) (by kernel_rfl) (by kernel_rfl) (fun _ _ _ h => h) (Or.inl ⟨by rfl, by intro w hSw; clear hSw; go_simp; (try with_reducible rfl)⟩) (by assumption) ?_
              try simp only [Act.put, List.setIfInBounds_toArray, List.set_cons_zero, List.set_cons_succ]
              refine wpAnyH_done (by kernel_rfl) ?_ _
              clear hHeld
              go_wp2_with fail
              try simp only [Exit.inBlock, Exit.then, Exit.noGoto]
              exact ret_tct Try.underlying53 rfl sizeF rfl rfl rfl K7 ⟨by rw [HE.out] <;> rfl, HB.out⟩

            · have hd : decide ((Bm.mk k (V k) true).v = e) = false := decide_eq_false hst
              clear hst
              go_wp2_with (first | ((with_reducible show wpList _ _ _ (Oper.mk _ (Op.load 53 _) _ _ _ _ :: _) _ _); refine loadF (K10) rfl rfl rfl ?_) | ((with_reducible show wpList _ _ _ (Oper.mk _ (Op.load 53 _) _ _ _ _ :: _) _ _); refine loadF (K5) rfl rfl rfl ?_))
              go_roundg gk2
              case rel => exact ⟨k + 1, (Bm.mk k (V k) true), by omega, by go_num, HN.out.symm, rfl, rfl, K3, K5, K7, K10, HB⟩
              case measure => omega
        · have HN : Hid (bmF f V (k + 1) = S) := by
            have e1 := bm_no (f := f) (V := V) HM.out (by rw [← HS.out]; exact hbt)
            show _ = _; rw [e1]; exact HS.out.symm
          simp only [not_or, Bool.not_eq_false, Bool.not_eq_true] at hbt
          obtain ⟨hbo, hbl⟩ := hbt
          have HOK := Lib.hid hbo
          go_wp2_with (first | ((with_reducible show wpList _ _ _ (Oper.mk _ (Op.load 53 _) _ _ _ (some _) :: _) _ _); refine loadgF (K10) rfl rfl rfl ?_) | ((with_reducible show wpList _ _ _ (Oper.mk _ (Op.load 53 _) _ _ _ (some _) :: _) _ _); refine loadgF (K14) rfl rfl rfl ?_))
          refine (HLS.out _).mono ?_
          rintro _ w7 ⟨rfl, hb⟩
          have K3 := K3.below hb K3.lt
          have K5 := K5.below hb K5.lt
          have K7 := K7.below hb K7.lt
          have K10 := K10.below hb K10.lt
          have K14 := K14.below hb K14.lt
          have HB : Hid (Below w.heap.size w w7) := HB.out.trans (hb.mono HB.out.size)
          clear hb
          by_cases hst : S.v = e
          · have hd : decide (S.v = e) = true := decide_eq_true hst
            have HE : Hid (bmF f V 4 = S) := by
              have h1 := HST.out (k + 1) (by omega)
              rw [HN.out] at h1
              exact h1 HOK.out hst
            clear hst
            go_wp2_with (first | ((with_reducible show wpList _ _ _ (Oper.mk _ (Op.load 53 _) _ _ _ _ :: _) _ _); refine loadF (K10) rfl rfl rfl ?_) | ((with_reducible show wpList _ _ _ (Oper.mk _ (Op.load 53 _) _ _ _ _ :: _) _ _); refine loadF (K5) rfl rfl rfl ?_))
            refine wp_region_held_drew (S := fun W => (∃ g, Blk W (w.heap.size + 1 + 1) 2 g 53) ∧ Blk W q 2 (fcF S.v) 53) (by kernel_rfl) (⟨⟨_, K7.drew⟩, K10.drew⟩) (fun hHeld => ?_)
            have K7 : Blk w7.drew (w.heap.size + 1 + 1) 2 (fun _ => 0) 53 := K7.drew
            have K10 : Blk w7.drew q 2 (fcF S.v) 53 := K10.drew
            have HB : Hid (Below w.heap.size w w7.drew) := HB.out.drew
            generalize w7.drew = x0 at *
            refine wpAnyH_take (i := 0) (oi := { dst := some 42, op := _, type := _, pos := _, after := _, guard := _ }) (v := .int .i64 (S.d : Int)) rfl (by kernel_rfl) (by kernel_rfl) (by kernel_rfl) (fun _ _ _ h => h) (Or.inl ⟨by rfl, by intro w hSw; clear hSw; go_simp; (try with_reducible rfl)⟩) (by assumption) ?_
            try simp only [Act.put, List.setIfInBounds_toArray, List.set_cons_zero, List.set_cons_succ]
            refine wpAnyH_take (i := 1) (oi := { dst := some 43, op := _, type := _, pos := _, after := _, guard := _ }) (v := .agg (mk 2 (fcF S.v))) rfl (by kernel_rfl) (by kernel_rfl) (by kernel_rfl) (fun _ _ _ h => h) (Or.inl ⟨by rfl, fun _ q => execF9 q.2 rfl rfl⟩) (by assumption) ?_
            try simp only [Act.put, List.setIfInBounds_toArray, List.set_cons_zero, List.set_cons_succ]
            refine wpAnyH_take (i := 2) (oi := { dst := some 44, op := _, type := _, pos := _, after := _, guard := _ }) (v := .bool S.ok) rfl (by kernel_rfl) (by kernel_rfl) (by kernel_rfl) (fun _ _ _ h => h) (Or.inl ⟨by rfl, by intro w hSw; clear hSw; go_simp; (try with_reducible rfl)⟩) (by assumption) ?_
            try simp only [Act.put, List.setIfInBounds_toArray, List.set_cons_zero, List.set_cons_succ]
            refine wpAnyH_take (i := 3) (oi := { dst := some 6, op := _, type := _, pos := _, after := _, guard := _ }) (v := .int .i64 (S.d : Int)) rfl (by kernel_rfl) (by kernel_rfl) (by kernel_rfl) (fun _ _ _ h => h) (Or.inl ⟨by rfl, by intro w hSw; clear hSw; go_simp; (try with_reducible rfl)⟩) (by assumption) ?_
            try simp only [Act.put, List.setIfInBounds_toArray, List.set_cons_zero, List.set_cons_succ]
            refine wpAnyH_ready (rs := [4]) (by kernel_rfl) (by simp) ?_
            refine AllReadyH.cons rfl (fun K hK => ?_) AllReadyH.nil
            have st1 := run_store_blk (P := Try.prog) (g := fcF S.v) K7
            have ms1 : (mk 2 (fcF S.v)).size = 2 := mk_size 2 _
            go_simp
            clear st1 ms1 hHeld
            have K10 := K10.rowOther (w.heap.size + 1 + 1) (mk 2 (fcF S.v)) (by omega)
            have HB : Hid (Below w.heap.size w (x0.setRow (w.heap.size + 1 + 1) (mk 2 (fcF S.v)))) := below_setRow HB.out (by omega) _
            have K7 := K7.row 2 (fcF S.v)
            generalize x0.setRow (w.heap.size + 1 + 1) (mk 2 (fcF S.v)) = x1 at *
            refine hK.out _ _ ⟨⟨_, K7⟩, K10⟩ (fun hHeld => ?_)
            clear hK K
            try simp only [Act.put, List.setIfInBounds_toArray, List.set_cons_zero, List.set_cons_succ]
            refine wpAnyH_take (i := 5) (oi := { dst := some 8, op := _, type := _, pos := _, after := _, guard := _ }) (v := .bool S.ok) rfl (by kernel_rfl) (by kernel_rfl) (by kernel_rfl) (fun _ _ _ h => h) (Or.inl ⟨by rfl, by intro w hSw; clear hSw; go_simp; (try with_reducible rfl)⟩) (by assumption) ?_
            try simp only [Act.put, List.setIfInBounds_toArray, List.set_cons_zero, List.set_cons_succ]
            refine wpAnyH_done (by kernel_rfl) ?_ _
            clear hHeld
            go_wp2_with fail
            try simp only [Exit.inBlock, Exit.then, Exit.noGoto]
            exact ret_tct Try.underlying53 rfl sizeF rfl rfl rfl K7 ⟨by rw [HE.out] <;> rfl, HB.out⟩

          · have hd : decide (S.v = e) = false := decide_eq_false hst
            clear hst
            go_wp2_with (first | ((with_reducible show wpList _ _ _ (Oper.mk _ (Op.load 53 _) _ _ _ _ :: _) _ _); refine loadF (K10) rfl rfl rfl ?_) | ((with_reducible show wpList _ _ _ (Oper.mk _ (Op.load 53 _) _ _ _ _ :: _) _ _); refine loadF (K5) rfl rfl rfl ?_))
            go_roundg gk2
            case rel => exact ⟨k + 1, S, by omega, by go_num, HN.out.symm, rfl, by rw [HOK.out], K3, K5, K7, K10, HB⟩
            case measure => omega
      · have hm : isMv f k = false := by simpa using hm
        have HN : Hid (bmF f V (k + 1) = S) := by show _ = _; rw [bm_still hm]; exact HS.out.symm
        have hq2 : sameB (slideB f k) f = true := by simpa [isMv] using hm
        clear hm
        go_wp2_with (first | ((with_reducible show wpList _ _ _ (Oper.mk _ (Op.load 29 _) _ _ _ _ :: _) _ _); refine loadSB9 K13 rfl rfl rfl ?_) | ((with_reducible show wpList _ _ _ (Oper.mk _ (Op.load 29 _) _ _ _ _ :: _) _ _); refine loadB (K3) rfl rfl rfl ?_))
        go_roundg gk2
        case rel => exact ⟨k + 1, S, by omega, by go_num, HN.out.symm, rfl, rfl, K3, K5, K7, K10, HB⟩
        case measure => omega
end Go.Proofs.Ytkocfpldgjfpeaa
