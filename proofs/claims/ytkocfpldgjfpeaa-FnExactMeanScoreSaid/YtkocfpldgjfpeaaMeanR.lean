/-
  The contract of the program's meanBehind, for any function that is told of a board: the mean of a fraction over all placements.
-/
import Derived.Test.YtkocfpldgjfpeaaOverR
import Derived.Test.YtkocfpldgjfpeaaPlaceKit
import Derived.Test.YtkocfpldgjfpeaaLeastR
import Derived.Test.YtkocfpldgjfpeaaFracKit
import Derived.Test.YtkocfpldgjfpeaaRoundKit
namespace Go.Proofs.Ytkocfpldgjfpeaa
open Go.RowKit Go.Shelf Plain
attribute [local go_sem] store_new Oper.semAt_some
set_option linter.unusedVariables false
set_option linter.unusedSimpArgs false

theorem wp_ldF {o : Oper} {a : Act} {w : World} {K : Act → World → Prop} {Q : Exit → Act → World → Prop} {x : Operand} {b : Nat} {f : Nat → Int} {t : TypeId} (hg : Blk w b 2 f t) (ho : o.op = .load 53 x) (hx : a.eval x = .pointer (some ⟨b, 0, none⟩))
    (h : K (a.put o.dst (.agg (mk 2 f))) w) : o.wp Try.prog a w K Q :=
  wp_load_row _ x ho b hx t _ _ _ hg Try.underlying53 rfl (by rw [mk_size]; exact sizeF) h
theorem times_int (p : Fc) (n : Int) (k : Nat) (w : World) (hn : n = (k : Int)) (hp : 0 < p.2) (h1 : p.1 * k ≤ 4611686018427387904) (h2 : p.2 ≤ 4611686018427387904) :
    Calls Try.prog 102 #[.agg (mk 2 (fcF p)), .int .i64 n] w fun e w' => e = .returned (.agg (mk 2 (fcF (timesF p k)))) ∧ Below w.heap.size w w' := by
  subst hn; exact times_any p k w hp h1 h2
theorem results_one {P : Program} {fn : Func} {tmps : Array Value} {w : World} {p : Tmp} {ty t : TypeId} {b n : Nat} {f : Nat → Int} {d : TypeDesc}
    (hg : Blk w b n f t) (hu : P.underlying ty = some d) (hd : d.isRow = true) (hi : (P.info? ty).map (·.size) = some n)
    (h : fn.results = #[.cell p ty]) (hp : tmps.getD p undef = .pointer (some ⟨b, 0, none⟩)) :
    (results fn tmps).run P w = .ok (.agg (mk n f)) w := by
  have hp' : tmps[p]?.getD undef = .pointer (some ⟨b, 0, none⟩) := by simpa using hp
  simp [results, h, hp', asAddr, run_load_blk hg hu hd hi]
/-- What the loop of meanBehind holds: the sum so far and the weights, and what it reads. -/
structure HoldsM (f : Nat → Int) (bc br b1 b2 B : Nat) (fv : Value) (S : Fc × Nat) (W : World) : Prop where
  sum : Blk W b1 2 (fcF S.1) 53
  wts : Boxed W b2 3 (.int .i64 (S.2 : Int))
  tel : Boxed W bc 56 fv
  res : Blk W br 2 (fun _ => 0) 53
  brd : Blk W B 16 f 29
theorem holdsM_own (f : Nat → Int) (T : (Nat → Int) → Fc) (bc br b1 b2 B : Nat) (fv : Value) : Own (fun (pre : List (Pl f)) W => HoldsM f bc br b1 b2 B fv (mnR T f (vals pre)) W) := fun s X Y row h hg hr =>
  ⟨heap_own _ (fun (_ : Unit) => _) _ () X Y row h.sum hg hr, heap_own _ (fun (_ : Unit) => _) _ () X Y row h.wts hg hr,
   heap_own _ (fun (_ : Unit) => _) _ () X Y row h.tel hg hr, heap_own _ (fun (_ : Unit) => _) _ () X Y row h.res hg hr, heap_own _ (fun (_ : Unit) => _) _ () X Y row h.brd hg hr⟩
theorem holdsM_grown {f : Nat → Int} {bc br b1 b2 B : Nat} {fv : Value} {S : Fc × Nat} {W W' : World} (h : HoldsM f bc br b1 b2 B fv S W) (hg : W.grownBy W' none) : HoldsM f bc br b1 b2 B fv S W' :=
  ⟨h.sum.grown hg (by simp), h.wts.kept hg (by simp), h.tel.kept hg (by simp), h.res.grown hg (by simp), h.brd.grown hg (by simp)⟩
theorem holdsM_drew {f : Nat → Int} {bc br b1 b2 B : Nat} {fv : Value} {S : Fc × Nat} {W : World} (h : HoldsM f bc br b1 b2 B fv S W) : HoldsM f bc br b1 b2 B fv S W.drew := ⟨h.sum, h.wts, h.tel, h.res, h.brd⟩
/-- Behind the two stores of a round. -/
theorem holdsM_put {f : Nat → Int} {n₀ bc br b1 b2 B : Nat} {fv : Value} {S : Fc × Nat} {W : World} (h : HoldsM f bc br b1 b2 B fv S W) (hb : (n₀ ≤ bc ∧ bc < br ∧ br < b1) ∧ b1 < b2 ∧ b2 < B) (p : Fc) (v : Nat) :
    HoldsM f bc br b1 b2 B fv (p, v) ((W.setRow b1 (mk 2 (fcF p))).setCell ⟨b2, 0, none⟩ (.int .i64 (v : Int))) ∧
    Keeps2 B W ((W.setRow b1 (mk 2 (fcF p))).setCell ⟨b2, 0, none⟩ (.int .i64 (v : Int))) ∧
    KeepsOthers W ((W.setRow b1 (mk 2 (fcF p))).setCell ⟨b2, 0, none⟩ (.int .i64 (v : Int))) ∧
    Below n₀ W ((W.setRow b1 (mk 2 (fcF p))).setCell ⟨b2, 0, none⟩ (.int .i64 (v : Int))) := by
  obtain ⟨⟨h0, h1, h2⟩, h3, h4⟩ := hb
  have g1 := grown_rowP h.sum (mk 2 (fcF p))
  have g2 := grownBy_setCell' (W.setRow b1 (mk 2 (fcF p))) b2 (.int .i64 (v : Int))
  have n1 : Boxed (W.setRow b1 (mk 2 (fcF p))) b2 3 (.int .i64 (S.2 : Int)) := h.wts.kept g1 (sne (by omega))
  have k1 : Blk (W.setRow b1 (mk 2 (fcF p))) B 16 f 29 := h.brd.grown g1 (sne (by omega))
  refine ⟨⟨?_, n1.set _, ?_, ?_, k1.grown g2 (sne (by omega))⟩, ?_, ?_, ?_⟩
  · exact (h.sum.row 2 (fcF p)).grown g2 (sne (by omega))
  · exact (h.tel.kept g1 (sne (by omega))).kept g2 (sne (by omega))
  · exact (h.res.grown g1 (sne (by omega))).grown g2 (sne (by omega))
  · exact (Keeps2.row h.brd.lt h.sum (by decide) (by omega) _).trans (Keeps2.setCell k1.lt n1 (by decide) (by omega) _)
  · exact (KeepsOthers.of_grownBy g1 (fun j o e hj => by cases e; rw [show W.heap[b1]? = _ from h.sum] at hj; cases hj; rfl)).trans (KeepsOthers.setCell _ _ _)
  · exact ((Below.refl n₀ W).grown g1 (by have := h.sum.lt; omega) (fun j e => by cases e; omega)).setCell (p := ⟨b2, 0, none⟩) (by dsimp only; omega) _
set_option maxRecDepth 100000 in
set_option maxHeartbeats 1000000 in
theorem meanBehind_any (f : Nat → Int) (T : (Nat → Int) → Fc) (D M : Nat) (cf : Nat) (pre lb : Array Value) (w : World) (hV : Vd f) (hD : Den D M T f) (hE : 0 < empN f 16)
    (eg : ∀ args w, (callFunc cf args).run Try.prog w = .ok (.enter cf args) w)
    (HC : ∀ (p : Nat × Nat) (W : World), PlOk f p → Below w.heap.size w W → Calls Try.prog cf (pre ++ #[.agg (mk 16 (plB f p))] ++ lb) W fun e w' => e = .returned (.agg (mk 2 (fcF (T (plB f p))))) ∧ Below W.heap.size W w') :
    Calls Try.prog 82 #[.agg (mk 16 f), .func (.func cf) pre lb] w fun e w' => e = .returned (.agg (mk 2 (fcF (mnF T f)))) ∧ Below w.heap.size w w' := by
  refine (callsIn_wide (n := 6)).1 ?_
  have z2 := zero2
  have z3 := zero3
  have z16 := zero16
  have hle := empN_le f 16
  obtain ⟨w1, hw1⟩ : ∃ w1, w1 = ((w.alloc (.cells (mk 16 f) 29)).alloc (.cells #[(Value.func (.func cf) pre lb)] 56)).alloc (.cells (mk 2 fun _ => 0) 53) := ⟨_, rfl⟩
  have K2 : Blk w1 w.heap.size 16 f 29 := by rw [hw1]; exact ((Blk.new w 16 f 29).alloc _).alloc _
  have K3 : Boxed w1 (w.heap.size + 1) 56 (Value.func (.func cf) pre lb) := by
    rw [hw1]
    have := Boxed.new (w.alloc (.cells (mk 16 f) 29)) 56 (Value.func (.func cf) pre lb)
    simp only [World.size_alloc] at this
    exact this.alloc _
  have K4 : Blk w1 (w.heap.size + 1 + 1) 2 (fun _ => 0) 53 := by
    rw [hw1]
    have := Blk.new ((w.alloc (.cells (mk 16 f) 29)).alloc (.cells #[(Value.func (.func cf) pre lb)] 56)) 2 (fun _ => 0) 53
    simp only [World.size_alloc] at this
    exact this
  have HB : Hid (Below w.heap.size w w1) := by
    rw [hw1]
    exact (((Below.refl w.heap.size w).alloc (Nat.le_refl _) _).alloc (by simp) _).alloc (by simp; omega) _
  have HV := Lib.hid hV
  have HCC := Lib.hid HC
  have HD := Lib.hid hD
  have HE := Lib.hid hE
  clear hV HC hD hE
  refine callsIn_of_wp_marks Try.func82 rfl trivial ?_ rfl
  simp only [Try.ntmps82, List.size_toArray, List.length_cons, List.length_nil, Nat.reduceAdd, Nat.reduceSub, Array.replicate_succ, Array.replicate_zero, List.push_toArray, List.append_toArray, List.nil_append, List.cons_append]
  gi_wp2_with fail
  rw [← hw1]
  clear hw1
  refine ⟨trivial, ?_⟩
  refine (callsIn_wide.2 (whole_any _ 0 _ rfl)).mono ?_
  rintro e w2 ⟨rfl, hb⟩
  have K2 := K2.below hb K2.lt
  have K3 := box_low K3 hb
  have K4 := K4.below hb K4.lt
  have HB : Hid (Below w.heap.size w w2) := HB.out.trans (hb.mono HB.out.size)
  clear hb
  have hq3 : w.heap.size + 1 + 1 < w2.heap.size := K4.lt
  obtain ⟨w3, hw3⟩ : ∃ w3, w3 = (w2.alloc (.cells (mk 2 fun _ => 0) 53)).alloc (.cells #[.int .i64 0] 3) := ⟨_, rfl⟩
  have hs3 : w3.heap.size = w2.heap.size + 1 + 1 := by rw [hw3]; simp only [World.size_alloc]
  have K2 : Blk w3 w.heap.size 16 f 29 := by rw [hw3]; exact (K2.alloc _).alloc _
  have K3 : Boxed w3 (w.heap.size + 1) 56 (Value.func (.func cf) pre lb) := by rw [hw3]; exact (K3.alloc _).alloc _
  have K4 : Blk w3 (w.heap.size + 1 + 1) 2 (fun _ => 0) 53 := by rw [hw3]; exact (K4.alloc _).alloc _
  have K5 : Blk w3 w2.heap.size 2 (fun _ => 0) 53 := by rw [hw3]; exact (Blk.new w2 2 (fun _ => 0) 53).alloc _
  have K6 : Boxed w3 (w2.heap.size + 1) 3 (.int .i64 0) := by
    rw [hw3]
    have := Boxed.new (w2.alloc (.cells (mk 2 fun _ => 0) 53)) 3 (.int .i64 0)
    simp only [World.size_alloc] at this
    exact this
  have HB : Hid (Below w.heap.size w w3) := by rw [hw3]; exact (HB.out.alloc HB.out.size _).alloc (by simp; have := HB.out.size; omega) _
  have g1 := grown_rowP K5 (mk 2 (fcF (0, 1)))
  have g2 := grownBy_setCell' (w3.setRow w2.heap.size (mk 2 (fcF (0, 1)))) (w2.heap.size + 1) (.int .i64 0)
  have c6 := (K6.kept g1 (sne (by omega))).cell
  have f6 := (K6.kept g1 (sne (by omega))).frozen
  have K2d : Blk ((w3.setRow w2.heap.size (mk 2 (fcF (0, 1)))).setCell ⟨w2.heap.size + 1, 0, none⟩ (.int .i64 0)) w.heap.size 16 f 29 := (K2.grown g1 (sne (by omega))).grown g2 (sne (by omega))
  have HK : HoldsM f (w.heap.size + 1) (w.heap.size + 1 + 1) w2.heap.size (w2.heap.size + 1) w.heap.size (Value.func (.func cf) pre lb) ((0, 1), 0) ((w3.setRow w2.heap.size (mk 2 (fcF (0, 1)))).setCell ⟨w2.heap.size + 1, 0, none⟩ (.int .i64 0)) :=
    ⟨(K5.row 2 _).grown g2 (sne (by omega)), (K6.kept g1 (sne (by omega))).set _, (K3.kept g1 (sne (by omega))).kept g2 (sne (by omega)), (K4.grown g1 (sne (by omega))).grown g2 (sne (by omega)), K2d⟩
  have HBd : Hid (Below w.heap.size w ((w3.setRow w2.heap.size (mk 2 (fcF (0, 1)))).setCell ⟨w2.heap.size + 1, 0, none⟩ (.int .i64 0))) :=
    (below_setRow HB.out (by omega) _).setCell (p := ⟨w2.heap.size + 1, 0, none⟩) (by dsimp only; omega) _
  have hs4 : ((w3.setRow w2.heap.size (mk 2 (fcF (0, 1)))).setCell ⟨w2.heap.size + 1, 0, none⟩ (.int .i64 0)).heap.size = w2.heap.size + 1 + 1 := by
    rw [← hs3]
    simp [World.setCell, World.setRow]
  have K5e := K5
  rw [hw3] at K5e
  clear K2 K3 K4 K5 K6 g1 g2 HB hs3
  gi_wp2_with (first
    | ((with_reducible show wpListIn _ _ _ _ _ (Oper.mk _ (Op.store 53 _ _) _ _ _ _ :: _) _ _); refine storeIn K5e rfl rfl rfl rfl sizeF ?_; rw [← hw3]; clear K5e hw3)
    | ((with_reducible show wpListIn _ _ _ _ _ (Oper.mk _ (Op.load 29 _) _ _ _ _ :: _) _ _); refine loadIn (K2d) rfl rfl rfl Try.underlying29 rfl sizeB ?_)
    | (refine ⟨trivial, ?_⟩; gi_at_call 101; refine (callsIn_wide.2 (replies_in _ _)).mono ?_; rintro e w' ⟨rfl, rfl⟩))
  clear c6 f6 K2d
  generalize (w3.setRow w2.heap.size (mk 2 (fcF (0, 1)))).setCell ⟨w2.heap.size + 1, 0, none⟩ (.int .i64 0) = W4 at *
  generalize w2.heap.size = q at *
  have KB := Blk.new W4 16 f 29
  rw [hs4] at KB
  have hg := World.grownBy_alloc W4 (.cells (mk 16 f) 29) none
  have HK : HoldsM f (w.heap.size + 1) (w.heap.size + 1 + 1) q (q + 1) (q + 1 + 1) (Value.func (.func cf) pre lb) ((0, 1), 0) (W4.alloc (.cells (mk 16 f) 29)) :=
    ⟨HK.sum.grown hg (by simp), HK.wts.kept hg (by simp), HK.tel.kept hg (by simp), HK.res.grown hg (by simp), KB⟩
  have HB0 : Hid (Below w.heap.size w (W4.alloc (.cells (mk 16 f) 29))) := HBd.out.alloc HBd.out.size _
  have hsz : (W4.alloc (.cells (mk 16 f) 29)).heap.size = q + 1 + 1 + 1 := by rw [World.size_alloc, hs4]
  clear hg HBd
  generalize W4.alloc (.cells (mk 16 f) 29) = W0 at *
  refine over_replies (n := 6) (by omega) HV.out rfl rfl KB
    (fun pr W => HoldsM f (w.heap.size + 1) (w.heap.size + 1 + 1) q (q + 1) (q + 1 + 1) (Value.func (.func cf) pre lb) (mnR T f (vals pr)) W ∧ Below w.heap.size W0 W) (fun _ _ _ => False)
    (OwnFrom.and (Own.from (holdsM_own _ _ _ _ _ _ _ _) _) (ownFrom_below (by omega) (by omega))) (fun _ _ _ _ _ h _ _ => h)
    ⟨HK, Below.refl _ _⟩ (fun x b c W => Blk W b 3 (plF x.1) 110 ∧ Blk W c 16 (plB f x.1) 29) (fun x b c => OwnFrom.and (Own.from (blk_own _ _ _ _) _) (Own.from (blk_own _ _ _ _) _)) ?A ?assign ?body ?done ?stop
  case assign =>
    rintro l pr x W K ⟨hH, hBl⟩ hK
    have hx := (Blk.new W 3 (plF x.1) 110).alloc (.cells (mk 16 (plB f x.1)) 29)
    have hy := Blk.new (W.alloc (.cells (mk 3 (plF x.1)) 110)) 16 (plB f x.1) 29
    gi_wp2
    have hg : W.grownBy ((W.alloc (.cells (mk 3 (plF x.1)) 110)).alloc (.cells (mk 16 (plB f x.1)) 29)) none := below_grown ((((Below.refl W.heap.size W).alloc (Nat.le_refl _) _)).alloc (by simp) _)
    have hq := hK W.heap.size (W.heap.size + 1) ((W.alloc (.cells (mk 3 (plF x.1)) 110)).alloc (.cells (mk 16 (plB f x.1)) 29)) (KeepsFrom.of_grownBy hg (fun j e => by cases e)) (Keeps2.grown hH.brd.lt hg (fun r e => by cases e))
      ⟨holdsM_grown hH hg, hBl.trans (Below.mono (((Below.refl W.heap.size W).alloc (Nat.le_refl _) _).alloc (by simp) _) (by have := hBl.size; omega))⟩ ⟨hx, by simpa using hy⟩
    clear hK
    generalize (W.alloc (.cells (mk 3 (plF x.1)) 110)).alloc (.cells (mk 16 (plB f x.1)) 29) = W2 at *
    generalize hc2 : W.heap.size + 1 = cq at *
    clear hc2
    generalize W.heap.size = bq at *
    exact hq
  case body =>
    rintro l pr x b d W hl hr ⟨hH, hBl⟩ ⟨hx, hy⟩ hlt
    have HCX := Lib.hid (fun W' (hb : Below W.heap.size W W') => HCC.out x.1 W' x.2 ((HB0.out.trans hBl).trans (hb.mono (by have := (HB0.out.trans hBl).size; omega))))
    have HBD := Lib.hid (mn_round HD.out (L := vals pr) (p := x.1) x.2 (fun q hq => by obtain ⟨y, _, rfl⟩ := List.mem_map.1 hq; exact y.2) (by rw [vals_len]; omega))
    have HST : Hid (mnR T f (vals (pr ++ [x])) = (plusF (mnR T f (vals pr)).1 (timesF (T (plB f x.1)) (wtP x.1)), (mnR T f (vals pr)).2 + wtP x.1)) := by show _ = _; rw [vals_snoc, mnR_snoc]; rfl
    generalize mnR T f (vals pr) = S at *
    have hHB : q + 1 + 1 < W.heap.size := hH.brd.lt
    have hdq : d ≠ q := fun e => by
      rw [e] at hy
      have h1 := (show W.heap[q]? = _ from hy).symm.trans (show W.heap[q]? = _ from hH.sum)
      simp at h1
    have cx := hx.cell (i := 2) (by omega)
    obtain ⟨wt, hwt⟩ : ∃ wt, wt = wtP x.1 := ⟨_, rfl⟩
    have HWT : Hid (wt = wtP x.1) := hwt
    rw [← hwt] at HBD HST
    have hw9 : wt ≤ 9 := by rw [hwt]; exact (wtP_le _).2
    have h2 : x.1.2 = 1 ∨ x.1.2 = 2 := by have := x.2.2.2; omega
    rcases h2 with h2 | h2
    · have e : plF x.1 2 = 1 := by show ((x.1.2 : Nat) : Int) = 1; omega
      rw [e] at cx
      have e9 : wt = 9 := by rw [hwt]; unfold wtP; rw [if_neg (by omega)]
      clear e h2 hwt
      subst e9
      clear HWT hw9
      generalize T (plB f x.1) = tv at *
      gi_wp2_with fail
      refine wpIn_region_round (S := fun W' => Boxed W' (w.heap.size + 1) 56 (Value.func (.func cf) pre lb) ∧ Blk W' d 16 (plB f x.1) 29) (by kernel_rfl) (by rintro ⟨_, _, h⟩; exact h) (by simp) ⟨hH.tel, hy.drew⟩ (fun hHeld => ?_)
      have BX : Hid (Below W.heap.size W W.drew) := (Below.refl _ W).drew
      have hH := holdsM_drew hH
      have hy := hy.drew
      generalize W.drew = x0 at *
      refine wpAnyH_take (i := 1) (oi := { dst := some 19, op := _, type := _, pos := _, after := _, guard := _ }) (v := .func (.func cf) pre lb) rfl (by kernel_rfl) (by kernel_rfl) (by kernel_rfl) (fun _ _ _ h => h) (Or.inl ⟨by rfl, by intro W q; have c0 := q.1.cell; clear q; go_simp⟩) (by assumption) ?_
      try simp only [Act.put, List.setIfInBounds_toArray, List.set_cons_zero, List.set_cons_succ]
      refine wpAnyH_take (i := 2) (oi := { dst := some 20, op := _, type := _, pos := _, after := _, guard := _ }) (v := .agg (mk 16 (plB f x.1))) rfl (by kernel_rfl) (by kernel_rfl) (by kernel_rfl) (fun _ _ _ h => h) (Or.inl ⟨by rfl, fun _ q => execB q.2 rfl rfl⟩) (by assumption) ?_
      try simp only [Act.put, List.setIfInBounds_toArray, List.set_cons_zero, List.set_cons_succ]
      refine wpAnyH_take (i := 4) (oi := { dst := some 22, op := _, type := _, pos := _, after := _, guard := _ }) (v := .int .i64 9) rfl (by kernel_rfl) (by kernel_rfl) (by kernel_rfl) (fun _ _ _ h => h) (Or.inl ⟨by rfl, by intro w hSw; clear hSw; go_simp; (try with_reducible rfl)⟩) (by assumption) ?_
      try simp only [Act.put, List.setIfInBounds_toArray, List.set_cons_zero, List.set_cons_succ]
      refine wpAnyH_ready (rs := [0, 3]) (by kernel_rfl) (by simp) ?_
      refine AllReadyH.cons rfl (fun K hK => ?_) ?_
      · rw [if_pos (by rfl)]
        refine wp_ldF hH.sum rfl rfl ?_
        refine hK.out _ _ ⟨hH.tel, hy⟩ (fun hHeld => ?_)
        clear hK K
        try simp only [Act.put, List.setIfInBounds_toArray, List.set_cons_zero, List.set_cons_succ]
        refine wpAnyH_ready (rs := [3]) (by kernel_rfl) (by simp) ?_
        refine AllReadyH.cons rfl (fun K hK => ?_) AllReadyH.nil
        go_simp
        refine (HCX.out _ BX.out).mono ?_
        rintro e x1 ⟨rfl, hb⟩
        have hH := holdsM_grown hH (below_grown hb)
        have hy := hy.below hb hy.lt
        have BX : Hid (Below W.heap.size W x1) := BX.out.trans (hb.mono BX.out.size)
        clear hb hHeld
        go_wp2_with fail
        refine hK.out _ _ ⟨hH.tel, hy⟩ (fun hHeld => ?_)
        clear hK K
        try simp only [Act.put, List.setIfInBounds_toArray, List.set_cons_zero, List.set_cons_succ]
        refine wpAnyH_ready (rs := [5]) (by kernel_rfl) (by simp) ?_
        refine AllReadyH.cons rfl (fun K hK => ?_) AllReadyH.nil
        go_simp
        refine (times_int tv _ 9 _ rfl HBD.out.1 HBD.out.2.2.2.1 HBD.out.2.2.2.2.1).mono ?_
        rintro e x2 ⟨rfl, hb⟩
        have hH := holdsM_grown hH (below_grown hb)
        have hy := hy.below hb hy.lt
        have BX : Hid (Below W.heap.size W x2) := BX.out.trans (hb.mono BX.out.size)
        clear hb hHeld
        go_wp2_with fail
        refine hK.out _ _ ⟨hH.tel, hy⟩ (fun hHeld => ?_)
        clear hK K
        try simp only [Act.put, List.setIfInBounds_toArray, List.set_cons_zero, List.set_cons_succ]
        refine wpAnyH_ready (rs := [6]) (by kernel_rfl) (by simp) ?_
        refine AllReadyH.cons rfl (fun K hK => ?_) AllReadyH.nil
        go_simp
        refine (plus_any S.1 (timesF tv 9) _ HBD.out.2.1 HBD.out.2.2.1 HBD.out.2.2.2.2.2.1 HBD.out.2.2.2.2.2.2.1 HBD.out.2.2.2.2.2.2.2.1).mono ?_
        rintro e x3 ⟨rfl, hb⟩
        have hH := holdsM_grown hH (below_grown hb)
        have hy := hy.below hb hy.lt
        have BX : Hid (Below W.heap.size W x3) := BX.out.trans (hb.mono BX.out.size)
        clear hb hHeld
        go_wp2_with fail
        refine hK.out _ _ ⟨hH.tel, hy⟩ (fun hHeld => ?_)
        clear hK K
        try simp only [Act.put, List.setIfInBounds_toArray, List.set_cons_zero, List.set_cons_succ]
        refine wpAnyH_ready (rs := [7]) (by kernel_rfl) (by simp) ?_
        refine AllReadyH.cons rfl (fun K hK => ?_) AllReadyH.nil
        obtain ⟨hP, hQ, hR, hT⟩ := holdsM_put (n₀ := w.heap.size) hH (by omega) (plusF S.1 (timesF tv 9)) (S.2 + 9)
        have e25 : ((S.2 + 9 : Nat) : Int) = (S.2 : Int) + 9 := by omega
        rw [e25] at hP hQ hR hT
        have hkf := KeepsFrom.of_grownBy (B := q + 1 + 1 + 1) (below_grown BX.out) (fun j e => by cases e)
        have hkp := Keeps2.below hHB BX.out
        have hB5 : Below w.heap.size W0 x3 := hBl.trans (BX.out.mono (by have := (HB0.out.trans hBl).size; omega))
        have g1 := grown_rowP hH.sum (mk 2 (fcF (plusF S.1 (timesF tv 9))))
        have hS3 : S.2 ≤ 300 := HBD.out.2.2.2.2.2.2.2.2
        have c6 := (hH.wts.kept g1 (sne (by omega))).cell
        have f6 := (hH.wts.kept g1 (sne (by omega))).frozen
        have tl6 := hH.tel.kept g1 (sne (by omega))
        have hy6 := hy.grown g1 (sne (by have := hdq; omega))
        have st1 := run_store_blk (P := Try.prog) (g := fcF (plusF S.1 (timesF tv 9))) hH.sum
        have ms1 : (mk 2 (fcF (plusF S.1 (timesF tv 9)))).size = 2 := mk_size 2 _
        have HP := Lib.hid hP
        clear hP g1
        go_simp
        clear st1 ms1 hHeld
        refine hK.out _ _ ⟨tl6, hy6⟩ (fun hHeld => ?_)
        clear hK K
        try simp only [Act.put, List.setIfInBounds_toArray, List.set_cons_zero, List.set_cons_succ]
        refine wpAnyH_done (by kernel_rfl) ?_ _
        clear hHeld tl6 hy6
        simp only [Exit.then]
        gi_wp2_with fail
        exact ⟨by rw [hsz]; exact hkf.trans (hR.from _), hkp.trans hQ, by show HoldsM _ _ _ _ _ _ _ _ _; rw [HST.out]; exact HP.out, hB5.trans hT⟩
      refine AllReadyH.cons rfl (fun K hK => ?_) AllReadyH.nil
      go_simp
      refine (HCX.out _ BX.out).mono ?_
      rintro e x1 ⟨rfl, hb⟩
      have hH := holdsM_grown hH (below_grown hb)
      have hy := hy.below hb hy.lt
      have BX : Hid (Below W.heap.size W x1) := BX.out.trans (hb.mono BX.out.size)
      clear hb hHeld
      go_wp2_with fail
      refine hK.out _ _ ⟨hH.tel, hy⟩ (fun hHeld => ?_)
      clear hK K
      try simp only [Act.put, List.setIfInBounds_toArray, List.set_cons_zero, List.set_cons_succ]
      refine wpAnyH_ready (rs := [0, 5]) (by kernel_rfl) (by simp) ?_
      refine AllReadyH.cons rfl (fun K hK => ?_) ?_
      · rw [if_pos (by rfl)]
        refine wp_ldF hH.sum rfl rfl ?_
        refine hK.out _ _ ⟨hH.tel, hy⟩ (fun hHeld => ?_)
        clear hK K
        try simp only [Act.put, List.setIfInBounds_toArray, List.set_cons_zero, List.set_cons_succ]
        refine wpAnyH_ready (rs := [5]) (by kernel_rfl) (by simp) ?_
        refine AllReadyH.cons rfl (fun K hK => ?_) AllReadyH.nil
        go_simp
        refine (times_int tv _ 9 _ rfl HBD.out.1 HBD.out.2.2.2.1 HBD.out.2.2.2.2.1).mono ?_
        rintro e x2 ⟨rfl, hb⟩
        have hH := holdsM_grown hH (below_grown hb)
        have hy := hy.below hb hy.lt
        have BX : Hid (Below W.heap.size W x2) := BX.out.trans (hb.mono BX.out.size)
        clear hb hHeld
        go_wp2_with fail
        refine hK.out _ _ ⟨hH.tel, hy⟩ (fun hHeld => ?_)
        clear hK K
        try simp only [Act.put, List.setIfInBounds_toArray, List.set_cons_zero, List.set_cons_succ]
        refine wpAnyH_ready (rs := [6]) (by kernel_rfl) (by simp) ?_
        refine AllReadyH.cons rfl (fun K hK => ?_) AllReadyH.nil
        go_simp
        refine (plus_any S.1 (timesF tv 9) _ HBD.out.2.1 HBD.out.2.2.1 HBD.out.2.2.2.2.2.1 HBD.out.2.2.2.2.2.2.1 HBD.out.2.2.2.2.2.2.2.1).mono ?_
        rintro e x3 ⟨rfl, hb⟩
        have hH := holdsM_grown hH (below_grown hb)
        have hy := hy.below hb hy.lt
        have BX : Hid (Below W.heap.size W x3) := BX.out.trans (hb.mono BX.out.size)
        clear hb hHeld
        go_wp2_with fail
        refine hK.out _ _ ⟨hH.tel, hy⟩ (fun hHeld => ?_)
        clear hK K
        try simp only [Act.put, List.setIfInBounds_toArray, List.set_cons_zero, List.set_cons_succ]
        refine wpAnyH_ready (rs := [7]) (by kernel_rfl) (by simp) ?_
        refine AllReadyH.cons rfl (fun K hK => ?_) AllReadyH.nil
        obtain ⟨hP, hQ, hR, hT⟩ := holdsM_put (n₀ := w.heap.size) hH (by omega) (plusF S.1 (timesF tv 9)) (S.2 + 9)
        have e25 : ((S.2 + 9 : Nat) : Int) = (S.2 : Int) + 9 := by omega
        rw [e25] at hP hQ hR hT
        have hkf := KeepsFrom.of_grownBy (B := q + 1 + 1 + 1) (below_grown BX.out) (fun j e => by cases e)
        have hkp := Keeps2.below hHB BX.out
        have hB5 : Below w.heap.size W0 x3 := hBl.trans (BX.out.mono (by have := (HB0.out.trans hBl).size; omega))
        have g1 := grown_rowP hH.sum (mk 2 (fcF (plusF S.1 (timesF tv 9))))
        have hS3 : S.2 ≤ 300 := HBD.out.2.2.2.2.2.2.2.2
        have c6 := (hH.wts.kept g1 (sne (by omega))).cell
        have f6 := (hH.wts.kept g1 (sne (by omega))).frozen
        have tl6 := hH.tel.kept g1 (sne (by omega))
        have hy6 := hy.grown g1 (sne (by have := hdq; omega))
        have st1 := run_store_blk (P := Try.prog) (g := fcF (plusF S.1 (timesF tv 9))) hH.sum
        have ms1 : (mk 2 (fcF (plusF S.1 (timesF tv 9)))).size = 2 := mk_size 2 _
        have HP := Lib.hid hP
        clear hP g1
        go_simp
        clear st1 ms1 hHeld
        refine hK.out _ _ ⟨tl6, hy6⟩ (fun hHeld => ?_)
        clear hK K
        try simp only [Act.put, List.setIfInBounds_toArray, List.set_cons_zero, List.set_cons_succ]
        refine wpAnyH_done (by kernel_rfl) ?_ _
        clear hHeld tl6 hy6
        simp only [Exit.then]
        gi_wp2_with fail
        exact ⟨by rw [hsz]; exact hkf.trans (hR.from _), hkp.trans hQ, by show HoldsM _ _ _ _ _ _ _ _ _; rw [HST.out]; exact HP.out, hB5.trans hT⟩
      refine AllReadyH.cons rfl (fun K hK => ?_) AllReadyH.nil
      go_simp
      refine (times_int tv _ 9 _ rfl HBD.out.1 HBD.out.2.2.2.1 HBD.out.2.2.2.2.1).mono ?_
      rintro e x2 ⟨rfl, hb⟩
      have hH := holdsM_grown hH (below_grown hb)
      have hy := hy.below hb hy.lt
      have BX : Hid (Below W.heap.size W x2) := BX.out.trans (hb.mono BX.out.size)
      clear hb hHeld
      go_wp2_with fail
      refine hK.out _ _ ⟨hH.tel, hy⟩ (fun hHeld => ?_)
      clear hK K
      try simp only [Act.put, List.setIfInBounds_toArray, List.set_cons_zero, List.set_cons_succ]
      refine wpAnyH_ready (rs := [0]) (by kernel_rfl) (by simp) ?_
      refine AllReadyH.cons rfl (fun K hK => ?_) AllReadyH.nil
      rw [if_pos (by rfl)]
      refine wp_ldF hH.sum rfl rfl ?_
      refine hK.out _ _ ⟨hH.tel, hy⟩ (fun hHeld => ?_)
      clear hK K
      try simp only [Act.put, List.setIfInBounds_toArray, List.set_cons_zero, List.set_cons_succ]
      refine wpAnyH_ready (rs := [6]) (by kernel_rfl) (by simp) ?_
      refine AllReadyH.cons rfl (fun K hK => ?_) AllReadyH.nil
      go_simp
      refine (plus_any S.1 (timesF tv 9) _ HBD.out.2.1 HBD.out.2.2.1 HBD.out.2.2.2.2.2.1 HBD.out.2.2.2.2.2.2.1 HBD.out.2.2.2.2.2.2.2.1).mono ?_
      rintro e x3 ⟨rfl, hb⟩
      have hH := holdsM_grown hH (below_grown hb)
      have hy := hy.below hb hy.lt
      have BX : Hid (Below W.heap.size W x3) := BX.out.trans (hb.mono BX.out.size)
      clear hb hHeld
      go_wp2_with fail
      refine hK.out _ _ ⟨hH.tel, hy⟩ (fun hHeld => ?_)
      clear hK K
      try simp only [Act.put, List.setIfInBounds_toArray, List.set_cons_zero, List.set_cons_succ]
      refine wpAnyH_ready (rs := [7]) (by kernel_rfl) (by simp) ?_
      refine AllReadyH.cons rfl (fun K hK => ?_) AllReadyH.nil
      obtain ⟨hP, hQ, hR, hT⟩ := holdsM_put (n₀ := w.heap.size) hH (by omega) (plusF S.1 (timesF tv 9)) (S.2 + 9)
      have e25 : ((S.2 + 9 : Nat) : Int) = (S.2 : Int) + 9 := by omega
      rw [e25] at hP hQ hR hT
      have hkf := KeepsFrom.of_grownBy (B := q + 1 + 1 + 1) (below_grown BX.out) (fun j e => by cases e)
      have hkp := Keeps2.below hHB BX.out
      have hB5 : Below w.heap.size W0 x3 := hBl.trans (BX.out.mono (by have := (HB0.out.trans hBl).size; omega))
      have g1 := grown_rowP hH.sum (mk 2 (fcF (plusF S.1 (timesF tv 9))))
      have hS3 : S.2 ≤ 300 := HBD.out.2.2.2.2.2.2.2.2
      have c6 := (hH.wts.kept g1 (sne (by omega))).cell
      have f6 := (hH.wts.kept g1 (sne (by omega))).frozen
      have tl6 := hH.tel.kept g1 (sne (by omega))
      have hy6 := hy.grown g1 (sne (by have := hdq; omega))
      have st1 := run_store_blk (P := Try.prog) (g := fcF (plusF S.1 (timesF tv 9))) hH.sum
      have ms1 : (mk 2 (fcF (plusF S.1 (timesF tv 9)))).size = 2 := mk_size 2 _
      have HP := Lib.hid hP
      clear hP g1
      go_simp
      clear st1 ms1 hHeld
      refine hK.out _ _ ⟨tl6, hy6⟩ (fun hHeld => ?_)
      clear hK K
      try simp only [Act.put, List.setIfInBounds_toArray, List.set_cons_zero, List.set_cons_succ]
      refine wpAnyH_done (by kernel_rfl) ?_ _
      clear hHeld tl6 hy6
      simp only [Exit.then]
      gi_wp2_with fail
      exact ⟨by rw [hsz]; exact hkf.trans (hR.from _), hkp.trans hQ, by show HoldsM _ _ _ _ _ _ _ _ _; rw [HST.out]; exact HP.out, hB5.trans hT⟩
    · have e : plF x.1 2 = 2 := by show ((x.1.2 : Nat) : Int) = 2; omega
      rw [e] at cx
      have e9 : wt = 1 := by rw [hwt]; unfold wtP; rw [if_pos h2]
      clear e h2 hwt
      subst e9
      clear HWT hw9
      generalize T (plB f x.1) = tv at *
      gi_wp2_with fail
      refine wpIn_region_round (S := fun W' => Boxed W' (w.heap.size + 1) 56 (Value.func (.func cf) pre lb) ∧ Blk W' d 16 (plB f x.1) 29) (by kernel_rfl) (by rintro ⟨_, _, h⟩; exact h) (by simp) ⟨hH.tel, hy.drew⟩ (fun hHeld => ?_)
      have BX : Hid (Below W.heap.size W W.drew) := (Below.refl _ W).drew
      have hH := holdsM_drew hH
      have hy := hy.drew
      generalize W.drew = x0 at *
      refine wpAnyH_take (i := 1) (oi := { dst := some 19, op := _, type := _, pos := _, after := _, guard := _ }) (v := .func (.func cf) pre lb) rfl (by kernel_rfl) (by kernel_rfl) (by kernel_rfl) (fun _ _ _ h => h) (Or.inl ⟨by rfl, by intro W q; have c0 := q.1.cell; clear q; go_simp⟩) (by assumption) ?_
      try simp only [Act.put, List.setIfInBounds_toArray, List.set_cons_zero, List.set_cons_succ]
      refine wpAnyH_take (i := 2) (oi := { dst := some 20, op := _, type := _, pos := _, after := _, guard := _ }) (v := .agg (mk 16 (plB f x.1))) rfl (by kernel_rfl) (by kernel_rfl) (by kernel_rfl) (fun _ _ _ h => h) (Or.inl ⟨by rfl, fun _ q => execB q.2 rfl rfl⟩) (by assumption) ?_
      try simp only [Act.put, List.setIfInBounds_toArray, List.set_cons_zero, List.set_cons_succ]
      refine wpAnyH_take (i := 4) (oi := { dst := some 22, op := _, type := _, pos := _, after := _, guard := _ }) (v := .int .i64 1) rfl (by kernel_rfl) (by kernel_rfl) (by kernel_rfl) (fun _ _ _ h => h) (Or.inl ⟨by rfl, by intro w hSw; clear hSw; go_simp; (try with_reducible rfl)⟩) (by assumption) ?_
      try simp only [Act.put, List.setIfInBounds_toArray, List.set_cons_zero, List.set_cons_succ]
      refine wpAnyH_ready (rs := [0, 3]) (by kernel_rfl) (by simp) ?_
      refine AllReadyH.cons rfl (fun K hK => ?_) ?_
      · rw [if_pos (by rfl)]
        refine wp_ldF hH.sum rfl rfl ?_
        refine hK.out _ _ ⟨hH.tel, hy⟩ (fun hHeld => ?_)
        clear hK K
        try simp only [Act.put, List.setIfInBounds_toArray, List.set_cons_zero, List.set_cons_succ]
        refine wpAnyH_ready (rs := [3]) (by kernel_rfl) (by simp) ?_
        refine AllReadyH.cons rfl (fun K hK => ?_) AllReadyH.nil
        go_simp
        refine (HCX.out _ BX.out).mono ?_
        rintro e x1 ⟨rfl, hb⟩
        have hH := holdsM_grown hH (below_grown hb)
        have hy := hy.below hb hy.lt
        have BX : Hid (Below W.heap.size W x1) := BX.out.trans (hb.mono BX.out.size)
        clear hb hHeld
        go_wp2_with fail
        refine hK.out _ _ ⟨hH.tel, hy⟩ (fun hHeld => ?_)
        clear hK K
        try simp only [Act.put, List.setIfInBounds_toArray, List.set_cons_zero, List.set_cons_succ]
        refine wpAnyH_ready (rs := [5]) (by kernel_rfl) (by simp) ?_
        refine AllReadyH.cons rfl (fun K hK => ?_) AllReadyH.nil
        go_simp
        refine (times_int tv _ 1 _ rfl HBD.out.1 HBD.out.2.2.2.1 HBD.out.2.2.2.2.1).mono ?_
        rintro e x2 ⟨rfl, hb⟩
        have hH := holdsM_grown hH (below_grown hb)
        have hy := hy.below hb hy.lt
        have BX : Hid (Below W.heap.size W x2) := BX.out.trans (hb.mono BX.out.size)
        clear hb hHeld
        go_wp2_with fail
        refine hK.out _ _ ⟨hH.tel, hy⟩ (fun hHeld => ?_)
        clear hK K
        try simp only [Act.put, List.setIfInBounds_toArray, List.set_cons_zero, List.set_cons_succ]
        refine wpAnyH_ready (rs := [6]) (by kernel_rfl) (by simp) ?_
        refine AllReadyH.cons rfl (fun K hK => ?_) AllReadyH.nil
        go_simp
        refine (plus_any S.1 (timesF tv 1) _ HBD.out.2.1 HBD.out.2.2.1 HBD.out.2.2.2.2.2.1 HBD.out.2.2.2.2.2.2.1 HBD.out.2.2.2.2.2.2.2.1).mono ?_
        rintro e x3 ⟨rfl, hb⟩
        have hH := holdsM_grown hH (below_grown hb)
        have hy := hy.below hb hy.lt
        have BX : Hid (Below W.heap.size W x3) := BX.out.trans (hb.mono BX.out.size)
        clear hb hHeld
        go_wp2_with fail
        refine hK.out _ _ ⟨hH.tel, hy⟩ (fun hHeld => ?_)
        clear hK K
        try simp only [Act.put, List.setIfInBounds_toArray, List.set_cons_zero, List.set_cons_succ]
        refine wpAnyH_ready (rs := [7]) (by kernel_rfl) (by simp) ?_
        refine AllReadyH.cons rfl (fun K hK => ?_) AllReadyH.nil
        obtain ⟨hP, hQ, hR, hT⟩ := holdsM_put (n₀ := w.heap.size) hH (by omega) (plusF S.1 (timesF tv 1)) (S.2 + 1)
        have e25 : ((S.2 + 1 : Nat) : Int) = (S.2 : Int) + 1 := by omega
        rw [e25] at hP hQ hR hT
        have hkf := KeepsFrom.of_grownBy (B := q + 1 + 1 + 1) (below_grown BX.out) (fun j e => by cases e)
        have hkp := Keeps2.below hHB BX.out
        have hB5 : Below w.heap.size W0 x3 := hBl.trans (BX.out.mono (by have := (HB0.out.trans hBl).size; omega))
        have g1 := grown_rowP hH.sum (mk 2 (fcF (plusF S.1 (timesF tv 1))))
        have hS3 : S.2 ≤ 300 := HBD.out.2.2.2.2.2.2.2.2
        have c6 := (hH.wts.kept g1 (sne (by omega))).cell
        have f6 := (hH.wts.kept g1 (sne (by omega))).frozen
        have tl6 := hH.tel.kept g1 (sne (by omega))
        have hy6 := hy.grown g1 (sne (by have := hdq; omega))
        have st1 := run_store_blk (P := Try.prog) (g := fcF (plusF S.1 (timesF tv 1))) hH.sum
        have ms1 : (mk 2 (fcF (plusF S.1 (timesF tv 1)))).size = 2 := mk_size 2 _
        have HP := Lib.hid hP
        clear hP g1
        go_simp
        clear st1 ms1 hHeld
        refine hK.out _ _ ⟨tl6, hy6⟩ (fun hHeld => ?_)
        clear hK K
        try simp only [Act.put, List.setIfInBounds_toArray, List.set_cons_zero, List.set_cons_succ]
        refine wpAnyH_done (by kernel_rfl) ?_ _
        clear hHeld tl6 hy6
        simp only [Exit.then]
        gi_wp2_with fail
        exact ⟨by rw [hsz]; exact hkf.trans (hR.from _), hkp.trans hQ, by show HoldsM _ _ _ _ _ _ _ _ _; rw [HST.out]; exact HP.out, hB5.trans hT⟩
      refine AllReadyH.cons rfl (fun K hK => ?_) AllReadyH.nil
      go_simp
      refine (HCX.out _ BX.out).mono ?_
      rintro e x1 ⟨rfl, hb⟩
      have hH := holdsM_grown hH (below_grown hb)
      have hy := hy.below hb hy.lt
      have BX : Hid (Below W.heap.size W x1) := BX.out.trans (hb.mono BX.out.size)
      clear hb hHeld
      go_wp2_with fail
      refine hK.out _ _ ⟨hH.tel, hy⟩ (fun hHeld => ?_)
      clear hK K
      try simp only [Act.put, List.setIfInBounds_toArray, List.set_cons_zero, List.set_cons_succ]
      refine wpAnyH_ready (rs := [0, 5]) (by kernel_rfl) (by simp) ?_
      refine AllReadyH.cons rfl (fun K hK => ?_) ?_
      · rw [if_pos (by rfl)]
        refine wp_ldF hH.sum rfl rfl ?_
        refine hK.out _ _ ⟨hH.tel, hy⟩ (fun hHeld => ?_)
        clear hK K
        try simp only [Act.put, List.setIfInBounds_toArray, List.set_cons_zero, List.set_cons_succ]
        refine wpAnyH_ready (rs := [5]) (by kernel_rfl) (by simp) ?_
        refine AllReadyH.cons rfl (fun K hK => ?_) AllReadyH.nil
        go_simp
        refine (times_int tv _ 1 _ rfl HBD.out.1 HBD.out.2.2.2.1 HBD.out.2.2.2.2.1).mono ?_
        rintro e x2 ⟨rfl, hb⟩
        have hH := holdsM_grown hH (below_grown hb)
        have hy := hy.below hb hy.lt
        have BX : Hid (Below W.heap.size W x2) := BX.out.trans (hb.mono BX.out.size)
        clear hb hHeld
        go_wp2_with fail
        refine hK.out _ _ ⟨hH.tel, hy⟩ (fun hHeld => ?_)
        clear hK K
        try simp only [Act.put, List.setIfInBounds_toArray, List.set_cons_zero, List.set_cons_succ]
        refine wpAnyH_ready (rs := [6]) (by kernel_rfl) (by simp) ?_
        refine AllReadyH.cons rfl (fun K hK => ?_) AllReadyH.nil
        go_simp
        refine (plus_any S.1 (timesF tv 1) _ HBD.out.2.1 HBD.out.2.2.1 HBD.out.2.2.2.2.2.1 HBD.out.2.2.2.2.2.2.1 HBD.out.2.2.2.2.2.2.2.1).mono ?_
        rintro e x3 ⟨rfl, hb⟩
        have hH := holdsM_grown hH (below_grown hb)
        have hy := hy.below hb hy.lt
        have BX : Hid (Below W.heap.size W x3) := BX.out.trans (hb.mono BX.out.size)
        clear hb hHeld
        go_wp2_with fail
        refine hK.out _ _ ⟨hH.tel, hy⟩ (fun hHeld => ?_)
        clear hK K
        try simp only [Act.put, List.setIfInBounds_toArray, List.set_cons_zero, List.set_cons_succ]
        refine wpAnyH_ready (rs := [7]) (by kernel_rfl) (by simp) ?_
        refine AllReadyH.cons rfl (fun K hK => ?_) AllReadyH.nil
        obtain ⟨hP, hQ, hR, hT⟩ := holdsM_put (n₀ := w.heap.size) hH (by omega) (plusF S.1 (timesF tv 1)) (S.2 + 1)
        have e25 : ((S.2 + 1 : Nat) : Int) = (S.2 : Int) + 1 := by omega
        rw [e25] at hP hQ hR hT
        have hkf := KeepsFrom.of_grownBy (B := q + 1 + 1 + 1) (below_grown BX.out) (fun j e => by cases e)
        have hkp := Keeps2.below hHB BX.out
        have hB5 : Below w.heap.size W0 x3 := hBl.trans (BX.out.mono (by have := (HB0.out.trans hBl).size; omega))
        have g1 := grown_rowP hH.sum (mk 2 (fcF (plusF S.1 (timesF tv 1))))
        have hS3 : S.2 ≤ 300 := HBD.out.2.2.2.2.2.2.2.2
        have c6 := (hH.wts.kept g1 (sne (by omega))).cell
        have f6 := (hH.wts.kept g1 (sne (by omega))).frozen
        have tl6 := hH.tel.kept g1 (sne (by omega))
        have hy6 := hy.grown g1 (sne (by have := hdq; omega))
        have st1 := run_store_blk (P := Try.prog) (g := fcF (plusF S.1 (timesF tv 1))) hH.sum
        have ms1 : (mk 2 (fcF (plusF S.1 (timesF tv 1)))).size = 2 := mk_size 2 _
        have HP := Lib.hid hP
        clear hP g1
        go_simp
        clear st1 ms1 hHeld
        refine hK.out _ _ ⟨tl6, hy6⟩ (fun hHeld => ?_)
        clear hK K
        try simp only [Act.put, List.setIfInBounds_toArray, List.set_cons_zero, List.set_cons_succ]
        refine wpAnyH_done (by kernel_rfl) ?_ _
        clear hHeld tl6 hy6
        simp only [Exit.then]
        gi_wp2_with fail
        exact ⟨by rw [hsz]; exact hkf.trans (hR.from _), hkp.trans hQ, by show HoldsM _ _ _ _ _ _ _ _ _; rw [HST.out]; exact HP.out, hB5.trans hT⟩
      refine AllReadyH.cons rfl (fun K hK => ?_) AllReadyH.nil
      go_simp
      refine (times_int tv _ 1 _ rfl HBD.out.1 HBD.out.2.2.2.1 HBD.out.2.2.2.2.1).mono ?_
      rintro e x2 ⟨rfl, hb⟩
      have hH := holdsM_grown hH (below_grown hb)
      have hy := hy.below hb hy.lt
      have BX : Hid (Below W.heap.size W x2) := BX.out.trans (hb.mono BX.out.size)
      clear hb hHeld
      go_wp2_with fail
      refine hK.out _ _ ⟨hH.tel, hy⟩ (fun hHeld => ?_)
      clear hK K
      try simp only [Act.put, List.setIfInBounds_toArray, List.set_cons_zero, List.set_cons_succ]
      refine wpAnyH_ready (rs := [0]) (by kernel_rfl) (by simp) ?_
      refine AllReadyH.cons rfl (fun K hK => ?_) AllReadyH.nil
      rw [if_pos (by rfl)]
      refine wp_ldF hH.sum rfl rfl ?_
      refine hK.out _ _ ⟨hH.tel, hy⟩ (fun hHeld => ?_)
      clear hK K
      try simp only [Act.put, List.setIfInBounds_toArray, List.set_cons_zero, List.set_cons_succ]
      refine wpAnyH_ready (rs := [6]) (by kernel_rfl) (by simp) ?_
      refine AllReadyH.cons rfl (fun K hK => ?_) AllReadyH.nil
      go_simp
      refine (plus_any S.1 (timesF tv 1) _ HBD.out.2.1 HBD.out.2.2.1 HBD.out.2.2.2.2.2.1 HBD.out.2.2.2.2.2.2.1 HBD.out.2.2.2.2.2.2.2.1).mono ?_
      rintro e x3 ⟨rfl, hb⟩
      have hH := holdsM_grown hH (below_grown hb)
      have hy := hy.below hb hy.lt
      have BX : Hid (Below W.heap.size W x3) := BX.out.trans (hb.mono BX.out.size)
      clear hb hHeld
      go_wp2_with fail
      refine hK.out _ _ ⟨hH.tel, hy⟩ (fun hHeld => ?_)
      clear hK K
      try simp only [Act.put, List.setIfInBounds_toArray, List.set_cons_zero, List.set_cons_succ]
      refine wpAnyH_ready (rs := [7]) (by kernel_rfl) (by simp) ?_
      refine AllReadyH.cons rfl (fun K hK => ?_) AllReadyH.nil
      obtain ⟨hP, hQ, hR, hT⟩ := holdsM_put (n₀ := w.heap.size) hH (by omega) (plusF S.1 (timesF tv 1)) (S.2 + 1)
      have e25 : ((S.2 + 1 : Nat) : Int) = (S.2 : Int) + 1 := by omega
      rw [e25] at hP hQ hR hT
      have hkf := KeepsFrom.of_grownBy (B := q + 1 + 1 + 1) (below_grown BX.out) (fun j e => by cases e)
      have hkp := Keeps2.below hHB BX.out
      have hB5 : Below w.heap.size W0 x3 := hBl.trans (BX.out.mono (by have := (HB0.out.trans hBl).size; omega))
      have g1 := grown_rowP hH.sum (mk 2 (fcF (plusF S.1 (timesF tv 1))))
      have hS3 : S.2 ≤ 300 := HBD.out.2.2.2.2.2.2.2.2
      have c6 := (hH.wts.kept g1 (sne (by omega))).cell
      have f6 := (hH.wts.kept g1 (sne (by omega))).frozen
      have tl6 := hH.tel.kept g1 (sne (by omega))
      have hy6 := hy.grown g1 (sne (by have := hdq; omega))
      have st1 := run_store_blk (P := Try.prog) (g := fcF (plusF S.1 (timesF tv 1))) hH.sum
      have ms1 : (mk 2 (fcF (plusF S.1 (timesF tv 1)))).size = 2 := mk_size 2 _
      have HP := Lib.hid hP
      clear hP g1
      go_simp
      clear st1 ms1 hHeld
      refine hK.out _ _ ⟨tl6, hy6⟩ (fun hHeld => ?_)
      clear hK K
      try simp only [Act.put, List.setIfInBounds_toArray, List.set_cons_zero, List.set_cons_succ]
      refine wpAnyH_done (by kernel_rfl) ?_ _
      clear hHeld tl6 hy6
      simp only [Exit.then]
      gi_wp2_with fail
      exact ⟨by rw [hsz]; exact hkf.trans (hR.from _), hkp.trans hQ, by show HoldsM _ _ _ _ _ _ _ _ _; rw [HST.out]; exact HP.out, hB5.trans hT⟩
  case done =>
    rintro D' ys W hD' hys ⟨hH, hBl⟩ hK
    have hys : vals ys = plA f := hys
    rw [hys] at hH
    clear hys
    have HBD := Lib.hid (mn_end HD.out HE.out)
    have HMN : Hid (mnF T f = divF (mnR T f (plA f)).1 (mnR T f (plA f)).2) := by show _ = _; rfl
    generalize mnR T f (plA f) = S at *
    have c6 := hH.wts.cell
    gi_wp2_with ((with_reducible show wpListIn _ _ _ _ _ (Oper.mk _ (Op.load 53 _) _ _ _ _ :: _) _ _); refine loadIn (hH.sum) rfl rfl rfl Try.underlying53 rfl sizeF ?_)
    refine ⟨trivial, ?_⟩
    refine (callsIn_wide.2 (divided_any S.1 S.2 _ HBD.out.1 HBD.out.2.1 (by have := HBD.out.2.2.1; omega) (by have := HBD.out.2.2.2; omega))).mono ?_
    rintro e w5 ⟨rfl, hb⟩
    rw [← HMN.out]
    have hsW := (HB0.out.trans hBl).size
    have KR := hH.res.below hb hH.res.lt
    have HKD : Hid (w5.heap[D']? = some (.deferred (some []))) := (hb.block D' (Array.getElem?_eq_some_iff.1 hK).1).trans hK
    have HX : Hid (Below w.heap.size w w5) := (HB0.out.trans hBl).trans (hb.mono hsW)
    clear hb hH hK hBl c6
    have HX : Hid (Below w.heap.size w (w5.setRow (w.heap.size + 1 + 1) (mk 2 (fcF (mnF T f))))) := below_setRow HX.out (by omega) _
    have HKD : Hid ((w5.setRow (w.heap.size + 1 + 1) (mk 2 (fcF (mnF T f)))).heap[D']? = some (.deferred (some []))) := (setRow_other w5 (w.heap.size + 1 + 1) D' _ (by omega)).trans HKD.out
    gi_wp2_with ((with_reducible show wpListIn _ _ _ _ _ (Oper.mk _ (Op.store 53 _ _) _ _ _ _ :: _) _ _); refine storeIn (KR) rfl rfl rfl rfl sizeF ?_)
    have KR := KR.row 2 (fcF (mnF T f))
    generalize w5.setRow (w.heap.size + 1 + 1) (mk 2 (fcF (mnF T f))) = x1 at *
    refine ⟨by simp, .inl ⟨_, _, rfl, run_takeDeferred HKD.out, ?_⟩⟩
    have KR2 : Blk (x1.putObj D' (.deferred none)) (w.heap.size + 1 + 1) 2 (fcF (mnF T f)) 53 := KR.grown (grownBy_putObj' x1 D' _) (sne (by omega))
    refine ⟨_, results_one KR2 Try.underlying53 rfl sizeF rfl rfl, rfl, HX.out.trans (belowK_b (w := w) (Nat.le_refl _) x1 D' _ _ (by omega) HKD.out rfl rfl)⟩
  case stop =>
    rintro D c pre W _ h _
    exact h.elim
end Go.Proofs.Ytkocfpldgjfpeaa
