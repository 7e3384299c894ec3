/-
  The contract of the program's leastReply: the first placement for which a number is the least.
-/
import Derived.Test.YtlboglcpbbnbcabOverR
import Derived.Test.YtlboglcpbbnbcabPlaceKit
namespace Go.Proofs.Ytlboglcpbbnbcab
open Go.RowKit Go.Shelf Plain
attribute [local go_sem] store_new Oper.semAt_some
set_option linter.unusedVariables false
set_option linter.unusedSimpArgs false

theorem heap_own {β : Type} (b : Nat) (F : β → Array Value) (t : TypeId) : Own (fun (s : β) W => W.heap[b]? = some (.cells (F s) t (0, 0))) := fun s X Y row hs hg hrow =>
  (hg.block b (Array.getElem?_eq_some_iff.1 hs).1 (fun e => by obtain ⟨o, ho, hc⟩ := hrow b e.symm; rw [hs] at ho; cases ho; cases hc)).trans hs
/-- A post that no panic meets. -/
def NoPanic (Q : Exit → Act → World → Prop) : Exit → Act → World → Prop
  | .panic _, _, _ => False
  | .outgrown, _, _ => False
  | e, a, w => Q e a w
theorem NoPanic.out {Q : Exit → Act → World → Prop} : ∀ (e : Exit) (a : Act) (w : World), NoPanic Q e a w → Q e a w
  | .normal, _, _, h | .exit _, _, _, h | .goto _, _, _, h | .ret, _, _, h => h
theorem results_ctt {P : Program} {fn : Func} {tmps : Array Value} {w : World} {p q r : Tmp} {ty t : TypeId} {b n : Nat} {f : Nat → Int} {d : TypeDesc}
    (hg : Blk w b n f t) (hu : P.underlying ty = some d) (hd : d.isRow = true) (hi : (P.info? ty).map (·.size) = some n)
    (h : fn.results = #[.cell p ty, .tmp q, .tmp r]) (hp : tmps.getD p undef = .pointer (some ⟨b, 0, none⟩)) :
    (results fn tmps).run P w = .ok (.tuple #[.agg (mk n f), tmps.getD q undef, tmps.getD r undef]) w := by
  have hp' : tmps[p]?.getD undef = .pointer (some ⟨b, 0, none⟩) := by simpa using hp
  simp [results, h, hp', asAddr, run_load_blk hg hu hd hi]
theorem sne {a b : Nat} (h : a ≠ b) : some a ≠ some b := fun e => h (Option.some.inj e)
/-- What the loop of leastReply holds: the first placement so far, its number, whether there is one; and what it reads. -/
structure HoldsL (f : Nat → Int) (bc br b1 b2 b3 B : Nat) (fv : Value) (S : Lst) (W : World) : Prop where
  one : Blk W b1 3 (plF S.p) 70
  num : Boxed W b2 3 (.int .i64 S.v)
  yes : Boxed W b3 4 (.bool S.ok)
  cnt : Boxed W bc 65 fv
  res : Blk W br 3 (fun _ => 0) 70
  brd : Blk W B 16 f 29
theorem holdsL_own (f : Nat → Int) (c : Nat × Nat → Int) (bc br b1 b2 b3 B : Nat) (fv : Value) : Own (fun (pre : List (Pl f)) W => HoldsL f bc br b1 b2 b3 B fv (lsF c (vals pre)) W) := fun s X Y row h hg hr =>
  ⟨heap_own _ (fun (_ : Unit) => _) _ () X Y row h.one hg hr, heap_own _ (fun (_ : Unit) => _) _ () X Y row h.num hg hr, heap_own _ (fun (_ : Unit) => _) _ () X Y row h.yes hg hr,
   heap_own _ (fun (_ : Unit) => _) _ () X Y row h.cnt hg hr, heap_own _ (fun (_ : Unit) => _) _ () X Y row h.res hg hr, heap_own _ (fun (_ : Unit) => _) _ () X Y row h.brd hg hr⟩
theorem holdsL_grown {f : Nat → Int} {bc br b1 b2 b3 B : Nat} {fv : Value} {S : Lst} {W W' : World} (h : HoldsL f bc br b1 b2 b3 B fv S W) (hg : W.grownBy W' none) : HoldsL f bc br b1 b2 b3 B fv S W' :=
  ⟨h.one.grown hg (by simp), h.num.kept hg (by simp), h.yes.kept hg (by simp), h.cnt.kept hg (by simp), h.res.grown hg (by simp), h.brd.grown hg (by simp)⟩
/-- Behind the three stores of a round that has found a lesser one. -/
theorem holdsL_put {f : Nat → Int} {n₀ bc br b1 b2 b3 B : Nat} {fv : Value} {S : Lst} {W : World} (h : HoldsL f bc br b1 b2 b3 B fv S W) (hb : (n₀ ≤ bc ∧ bc < br ∧ br < b1) ∧ b1 < b2 ∧ b2 < b3 ∧ b3 < B) (p : Nat × Nat) (v : Int) :
    HoldsL f bc br b1 b2 b3 B fv ⟨p, v, true⟩ (((W.setRow b1 (mk 3 (plF p))).setCell ⟨b2, 0, none⟩ (.int .i64 v)).setCell ⟨b3, 0, none⟩ (.bool true)) ∧
    Keeps2 B W (((W.setRow b1 (mk 3 (plF p))).setCell ⟨b2, 0, none⟩ (.int .i64 v)).setCell ⟨b3, 0, none⟩ (.bool true)) ∧
    KeepsOthers W (((W.setRow b1 (mk 3 (plF p))).setCell ⟨b2, 0, none⟩ (.int .i64 v)).setCell ⟨b3, 0, none⟩ (.bool true)) ∧
    Below n₀ W (((W.setRow b1 (mk 3 (plF p))).setCell ⟨b2, 0, none⟩ (.int .i64 v)).setCell ⟨b3, 0, none⟩ (.bool true)) := by
  obtain ⟨⟨h0, h1, h2⟩, h3, h4, h5⟩ := hb
  have g1 := grown_rowP h.one (mk 3 (plF p))
  have g2 := grownBy_setCell' (W.setRow b1 (mk 3 (plF p))) b2 (.int .i64 v)
  have g3 := grownBy_setCell' ((W.setRow b1 (mk 3 (plF p))).setCell ⟨b2, 0, none⟩ (.int .i64 v)) b3 (.bool true)
  have ne : ∀ {a b : Nat}, a ≠ b → some a ≠ some b := fun h e => h (Option.some.inj e)
  have n1 : Boxed (W.setRow b1 (mk 3 (plF p))) b2 3 (.int .i64 S.v) := h.num.kept g1 (ne (by omega))
  have y1 : Boxed (W.setRow b1 (mk 3 (plF p))) b3 4 (.bool S.ok) := h.yes.kept g1 (ne (by omega))
  have k1 : Blk (W.setRow b1 (mk 3 (plF p))) B 16 f 29 := h.brd.grown g1 (ne (by omega))
  have y2 := y1.kept g2 (ne (by omega))
  have k2 := k1.grown g2 (ne (by omega))
  refine ⟨⟨?_, ?_, y2.set _, ?_, ?_, k2.grown g3 (ne (by omega))⟩, ?_, ?_, ?_⟩
  · exact ((h.one.row 3 (plF p)).grown g2 (ne (by omega))).grown g3 (ne (by omega))
  · exact (n1.set _).kept g3 (ne (by omega))
  · exact ((h.cnt.kept g1 (ne (by omega))).kept g2 (ne (by omega))).kept g3 (ne (by omega))
  · exact ((h.res.grown g1 (ne (by omega))).grown g2 (ne (by omega))).grown g3 (ne (by omega))
  · exact ((Keeps2.row h.brd.lt h.one (by decide) (by omega) _).trans (Keeps2.setCell k1.lt n1 (by decide) (by omega) _)).trans (Keeps2.setCell k2.lt y2 (by decide) (by omega) _)
  · exact ((KeepsOthers.of_grownBy g1 (fun j o e hj => by cases e; rw [show W.heap[b1]? = _ from h.one] at hj; cases hj; rfl)).trans (KeepsOthers.setCell _ _ _)).trans (KeepsOthers.setCell _ _ _)
  · exact (((Below.refl n₀ W).grown g1 (by have := h.one.lt; omega) (fun j e => by cases e; omega)).setCell (p := ⟨b2, 0, none⟩) (by dsimp only; omega) _).setCell (p := ⟨b3, 0, none⟩) (by dsimp only; omega) _
set_option maxRecDepth 100000 in
set_option maxHeartbeats 1000000 in
theorem leastReply_any (f : Nat → Int) (c : Nat × Nat → Int) (cf : Nat) (lb : Array Value) (w : World) (hV : Vd f)
    (eg : ∀ args w, (callFunc cf args).run Try.prog w = .ok (.enter cf args) w)
    (HC : ∀ (p : Nat × Nat) (W : World), PlOk f p → Below w.heap.size w W → Calls Try.prog cf (#[.agg (mk 16 (plB f p))] ++ lb) W fun e w' => e = .returned (.int .i64 (c p)) ∧ Below W.heap.size W w') :
    Calls Try.prog 121 #[.agg (mk 16 f), .func (.func cf) #[] lb] w fun e w' => e = .returned (.tuple #[.agg (mk 3 (plF (lsF c (plA f)).p)), .int .i64 (lsF c (plA f)).v, .bool (lsF c (plA f)).ok]) ∧ Below w.heap.size w w' := by
  refine (callsIn_wide (n := 6)).1 ?_
  have z3 := zero3
  have z16 := zero16
  have hle := empN_le f 16
  obtain ⟨w1, hw1⟩ : ∃ w1, w1 = (((((w.alloc (.cells (mk 16 f) 29)).alloc (.cells #[(Value.func (.func cf) #[] lb)] 65)).alloc (.cells (mk 3 fun _ => 0) 70)).alloc (.cells (mk 3 fun _ => 0) 70)).alloc (.cells #[.int .i64 0] 3)).alloc (.cells #[.bool false] 4) := ⟨_, rfl⟩
  have K2 : Blk w1 w.heap.size 16 f 29 := by rw [hw1]; exact (((((Blk.new w 16 f 29).alloc _).alloc _).alloc _).alloc _).alloc _
  have K3 : Boxed w1 (w.heap.size + 1) 65 (Value.func (.func cf) #[] lb) := by
    rw [hw1]
    have := Boxed.new (w.alloc (.cells (mk 16 f) 29)) 65 (Value.func (.func cf) #[] lb)
    simp only [World.size_alloc] at this
    exact (((this.alloc _).alloc _).alloc _).alloc _
  have K4 : Blk w1 (w.heap.size + 1 + 1) 3 (fun _ => 0) 70 := by
    rw [hw1]
    have := Blk.new ((w.alloc (.cells (mk 16 f) 29)).alloc (.cells #[(Value.func (.func cf) #[] lb)] 65)) 3 (fun _ => 0) 70
    simp only [World.size_alloc] at this
    exact ((this.alloc _).alloc _).alloc _
  have K7 : Blk w1 (w.heap.size + 1 + 1 + 1) 3 (fun _ => 0) 70 := by
    rw [hw1]
    have := Blk.new (((w.alloc (.cells (mk 16 f) 29)).alloc (.cells #[(Value.func (.func cf) #[] lb)] 65)).alloc (.cells (mk 3 fun _ => 0) 70)) 3 (fun _ => 0) 70
    simp only [World.size_alloc] at this
    exact (this.alloc _).alloc _
  have K8 : Boxed w1 (w.heap.size + 1 + 1 + 1 + 1) 3 (.int .i64 0) := by
    rw [hw1]
    have := Boxed.new ((((w.alloc (.cells (mk 16 f) 29)).alloc (.cells #[(Value.func (.func cf) #[] lb)] 65)).alloc (.cells (mk 3 fun _ => 0) 70)).alloc (.cells (mk 3 fun _ => 0) 70)) 3 (.int .i64 0)
    simp only [World.size_alloc] at this
    exact this.alloc _
  have K9 : Boxed w1 (w.heap.size + 1 + 1 + 1 + 1 + 1) 4 (.bool false) := by
    rw [hw1]
    have := Boxed.new (((((w.alloc (.cells (mk 16 f) 29)).alloc (.cells #[(Value.func (.func cf) #[] lb)] 65)).alloc (.cells (mk 3 fun _ => 0) 70)).alloc (.cells (mk 3 fun _ => 0) 70)).alloc (.cells #[.int .i64 0] 3)) 4 (.bool false)
    simp only [World.size_alloc] at this
    exact this
  have HB : Hid (Below w.heap.size w w1) := by
    rw [hw1]
    exact ((((((Below.refl w.heap.size w).alloc (Nat.le_refl _) _).alloc (by simp) _).alloc (by simp; omega) _).alloc (by simp; omega) _).alloc (by simp; omega) _).alloc (by simp; omega) _
  have hs1 : w1.heap.size = w.heap.size + 6 := by rw [hw1]; simp only [World.size_alloc]
  have HV := Lib.hid hV
  have HCC := Lib.hid HC
  clear hV HC
  refine callsIn_of_wp_marks Try.func121 rfl trivial ?_ rfl
  simp only [Try.ntmps121, List.size_toArray, List.length_cons, List.length_nil, Nat.reduceAdd, Nat.reduceSub, Array.replicate_succ, Array.replicate_zero, List.push_toArray, List.append_toArray, List.nil_append, List.cons_append]
  have K7e := K7
  have c8 := (K8.kept (grown_rowP K7 (mk 3 fun _ => 0)) (sne (by omega))).cell
  have f8 := (K8.kept (grown_rowP K7 (mk 3 fun _ => 0)) (sne (by omega))).frozen
  have K9a := (K9.kept (grown_rowP K7 (mk 3 fun _ => 0)) (sne (by omega))).kept (grownBy_setCell' (w1.setRow (w.heap.size + 1 + 1 + 1) (mk 3 fun _ => 0)) (w.heap.size + 1 + 1 + 1 + 1) (.int .i64 0)) (sne (by omega))
  have c9 := K9a.cell
  have f9 := K9a.frozen
  have g1 := grown_rowP K7 (mk 3 fun _ => 0)
  have g2 := grownBy_setCell' (w1.setRow (w.heap.size + 1 + 1 + 1) (mk 3 fun _ => 0)) (w.heap.size + 1 + 1 + 1 + 1) (.int .i64 0)
  have g3 := grownBy_setCell' ((w1.setRow (w.heap.size + 1 + 1 + 1) (mk 3 fun _ => 0)).setCell ⟨w.heap.size + 1 + 1 + 1 + 1, 0, none⟩ (.int .i64 0)) (w.heap.size + 1 + 1 + 1 + 1 + 1) (.bool false)
  have K2d : Blk (((w1.setRow (w.heap.size + 1 + 1 + 1) (mk 3 fun _ => 0)).setCell ⟨w.heap.size + 1 + 1 + 1 + 1, 0, none⟩ (.int .i64 0)).setCell ⟨w.heap.size + 1 + 1 + 1 + 1 + 1, 0, none⟩ (.bool false)) w.heap.size 16 f 29 := ((K2.grown g1 (sne (by omega))).grown g2 (sne (by omega))).grown g3 (sne (by omega))
  have HK : HoldsL f (w.heap.size + 1) (w.heap.size + 1 + 1) (w.heap.size + 1 + 1 + 1) (w.heap.size + 1 + 1 + 1 + 1) (w.heap.size + 1 + 1 + 1 + 1 + 1) w.heap.size (Value.func (.func cf) #[] lb) ls0 (((w1.setRow (w.heap.size + 1 + 1 + 1) (mk 3 fun _ => 0)).setCell ⟨w.heap.size + 1 + 1 + 1 + 1, 0, none⟩ (.int .i64 0)).setCell ⟨w.heap.size + 1 + 1 + 1 + 1 + 1, 0, none⟩ (.bool false)) := by
    refine ⟨?_, ?_, K9a.set _, ?_, ?_, K2d⟩
    · have : mk 3 (plF (0, 0)) = mk 3 fun _ => 0 := mk_congr fun j _ => plF_zero j
      show Blk _ _ 3 (plF (0, 0)) _
      unfold Blk
      rw [this]
      exact ((K7.row 3 fun _ => 0).grown g2 (sne (by omega))).grown g3 (sne (by omega))
    · exact ((K8.kept g1 (sne (by omega))).set _).kept g3 (sne (by omega))
    · exact ((K3.kept g1 (sne (by omega))).kept g2 (sne (by omega))).kept g3 (sne (by omega))
    · exact ((K4.grown g1 (sne (by omega))).grown g2 (sne (by omega))).grown g3 (sne (by omega))
  have HBd : Hid (Below w.heap.size w (((w1.setRow (w.heap.size + 1 + 1 + 1) (mk 3 fun _ => 0)).setCell ⟨w.heap.size + 1 + 1 + 1 + 1, 0, none⟩ (.int .i64 0)).setCell ⟨w.heap.size + 1 + 1 + 1 + 1 + 1, 0, none⟩ (.bool false))) :=
    (below_setRow HB.out (by omega) _ |>.setCell (p := ⟨w.heap.size + 1 + 1 + 1 + 1, 0, none⟩) (by dsimp only; omega) _).setCell (p := ⟨w.heap.size + 1 + 1 + 1 + 1 + 1, 0, none⟩) (by dsimp only; omega) _
  rw [hw1] at K7e
  clear K3 K4 K7 K8 K9 K9a K2 g1 g2 g3 HB
  gi_wp2_with (first
    | ((with_reducible show wpListIn _ _ _ _ _ (Oper.mk _ (Op.store 70 _ _) _ _ _ _ :: _) _ _); refine storeIn K7e rfl rfl rfl rfl sizeA ?_; rw [← hw1]; clear K7e hw1)
    | ((with_reducible show wpListIn _ _ _ _ _ (Oper.mk _ (Op.load 29 _) _ _ _ _ :: _) _ _); refine loadIn (K2d) rfl rfl rfl Try.underlying29 rfl sizeB ?_)
    | (refine ⟨trivial, ?_⟩; gi_at_call 112; refine (callsIn_wide.2 (replies_in _ _)).mono ?_; rintro e w' ⟨rfl, rfl⟩))
  have hs4 : (((w1.setRow (w.heap.size + 1 + 1 + 1) (mk 3 fun _ => 0)).setCell ⟨w.heap.size + 1 + 1 + 1 + 1, 0, none⟩ (.int .i64 0)).setCell ⟨w.heap.size + 1 + 1 + 1 + 1 + 1, 0, none⟩ (.bool false)).heap.size = w.heap.size + 6 := by
    rw [← hs1]
    simp [World.setCell, World.setRow]
  clear c8 f8 c9 f9 K2d hs1
  generalize ((w1.setRow (w.heap.size + 1 + 1 + 1) (mk 3 fun _ => 0)).setCell ⟨w.heap.size + 1 + 1 + 1 + 1, 0, none⟩ (.int .i64 0)).setCell ⟨w.heap.size + 1 + 1 + 1 + 1 + 1, 0, none⟩ (.bool false) = W4 at *
  have KB := Blk.new W4 16 f 29
  rw [hs4] at KB
  have hg := World.grownBy_alloc W4 (.cells (mk 16 f) 29) none
  have HK : HoldsL f (w.heap.size + 1) (w.heap.size + 1 + 1) (w.heap.size + 1 + 1 + 1) (w.heap.size + 1 + 1 + 1 + 1) (w.heap.size + 1 + 1 + 1 + 1 + 1) (w.heap.size + 6) (Value.func (.func cf) #[] lb) ls0 (W4.alloc (.cells (mk 16 f) 29)) :=
    ⟨HK.one.grown hg (by simp), HK.num.kept hg (by simp), HK.yes.kept hg (by simp), HK.cnt.kept hg (by simp), HK.res.grown hg (by simp), KB⟩
  have HB0 : Hid (Below w.heap.size w (W4.alloc (.cells (mk 16 f) 29))) := HBd.out.alloc HBd.out.size _
  have hsz : (W4.alloc (.cells (mk 16 f) 29)).heap.size = w.heap.size + 6 + 1 := by rw [World.size_alloc, hs4]
  clear hg HBd
  generalize W4.alloc (.cells (mk 16 f) 29) = W0 at *
  refine over_replies (n := 6) (by omega) HV.out rfl rfl KB
    (fun pre W => HoldsL f (w.heap.size + 1) (w.heap.size + 1 + 1) (w.heap.size + 1 + 1 + 1) (w.heap.size + 1 + 1 + 1 + 1) (w.heap.size + 1 + 1 + 1 + 1 + 1) (w.heap.size + 6) (Value.func (.func cf) #[] lb) (lsF c (vals pre)) W ∧ Below w.heap.size W0 W) (fun _ _ _ => False)
    (OwnFrom.and (Own.from (holdsL_own _ _ _ _ _ _ _ _ _) _) (ownFrom_below (by omega) (by omega))) (fun _ _ _ _ _ h _ _ => h)
    ⟨HK, Below.refl _ _⟩ (fun x b c W => Blk W b 3 (plF x.1) 70 ∧ Blk W c 16 (plB f x.1) 29) (fun x b c => OwnFrom.and (Own.from (blk_own _ _ _ _) _) (Own.from (blk_own _ _ _ _) _)) ?A ?assign ?body ?done ?stop
  case assign =>
    rintro l pre x W K ⟨hH, hBl⟩ hK
    have hx := (Blk.new W 3 (plF x.1) 70).alloc (.cells (mk 16 (plB f x.1)) 29)
    have hy := Blk.new (W.alloc (.cells (mk 3 (plF x.1)) 70)) 16 (plB f x.1) 29
    gi_wp2
    have hg : W.grownBy ((W.alloc (.cells (mk 3 (plF x.1)) 70)).alloc (.cells (mk 16 (plB f x.1)) 29)) none := below_grown ((((Below.refl W.heap.size W).alloc (Nat.le_refl _) _)).alloc (by simp) _)
    have hq := hK W.heap.size (W.heap.size + 1) ((W.alloc (.cells (mk 3 (plF x.1)) 70)).alloc (.cells (mk 16 (plB f x.1)) 29)) (KeepsFrom.of_grownBy hg (fun j e => by cases e)) (Keeps2.grown hH.brd.lt hg (fun r e => by cases e))
      ⟨holdsL_grown hH hg, hBl.trans (Below.mono (((Below.refl W.heap.size W).alloc (Nat.le_refl _) _).alloc (by simp) _) (by have := hBl.size; omega))⟩ ⟨hx, by simpa using hy⟩
    clear hK
    generalize (W.alloc (.cells (mk 3 (plF x.1)) 70)).alloc (.cells (mk 16 (plB f x.1)) 29) = W2 at *
    generalize hc2 : W.heap.size + 1 = cq at *
    clear hc2
    generalize W.heap.size = bq at *
    exact hq
  case body =>
    rintro l pre x b d W hl hr ⟨hH, hBl⟩ ⟨hx, hy⟩ hlt
    have hcc := hH.cnt.cell
    have HCX := Lib.hid (HCC.out x.1 W x.2 (HB0.out.trans hBl))
    have HST : Hid (lsF c (vals (pre ++ [x])) = lsStep c (lsF c (vals pre)) x.1) := by show _ = _; rw [vals_snoc, lsF_snoc]
    have h1n : 1 ≤ 6 - 1 - 1 := by omega
    gi_wp2_with (first
      | ((with_reducible show wpListIn _ _ _ _ _ (Oper.mk _ (Op.load 29 _) _ _ _ _ :: _) _ _); refine loadIn (hy) rfl rfl rfl Try.underlying29 rfl sizeB ?_))
    refine ⟨trivial, ?_⟩
    refine (CallsIn.inRound l (callsIn_wide.2 HCX.out)).mono ?_
    rintro e w5 ⟨rfl, hb⟩
    have hx := hx.below hb hx.lt
    have hH5 := holdsL_grown hH (below_grown hb)
    have hkp5 := Keeps2.below hH.brd.lt hb
    have hkf5 := KeepsFrom.of_grownBy (B := w.heap.size + 6 + 1) (below_grown hb) (fun j e => by cases e)
    have hB5 : Below w.heap.size W0 w5 := hBl.trans (hb.mono (by have := hBl.size; omega))
    clear hb hy hcc HCX hH
    have hf := hH5.yes.cell
    have hn := hH5.num.cell
    obtain ⟨S, hS⟩ : ∃ S, S = lsF c (vals pre) := ⟨_, rfl⟩
    rw [← hS] at hH5 HST hf hn
    obtain ⟨hP, hQ, hR, hT⟩ := holdsL_put (n₀ := w.heap.size) hH5 (by omega) x.1 (c x.1)
    have g1 := grown_rowP hH5.one (mk 3 (plF x.1))
    have c8 := (hH5.num.kept g1 (sne (by omega))).cell
    have f8 := (hH5.num.kept g1 (sne (by omega))).frozen
    have g2 := grownBy_setCell' (w5.setRow (w.heap.size + 1 + 1 + 1) (mk 3 (plF x.1))) (w.heap.size + 1 + 1 + 1 + 1) (.int .i64 (c x.1))
    have c9 := ((hH5.yes.kept g1 (sne (by omega))).kept g2 (sne (by omega))).cell
    have f9 := ((hH5.yes.kept g1 (sne (by omega))).kept g2 (sne (by omega))).frozen
    have HONE := Lib.hid hH5.one
    have HH5 := Lib.hid hH5
    clear g1 g2 hS hH5
    by_cases ho : S.ok = false
    · have e : lsStep c S x.1 = ⟨x.1, c x.1, true⟩ := lsStep_yes (.inl ho)
      rw [ho] at hf
      have HP := Lib.hid hP
      clear ho hP
      generalize c x.1 = cv at *
      gi_wp2_with (first | ((with_reducible show wpListIn _ _ _ _ _ (Oper.mk _ (Op.load 70 _) _ _ _ _ :: _) _ _); refine loadIn (hx) rfl rfl rfl Try.underlying70 rfl sizeA ?_) | ((with_reducible show wpListIn _ _ _ _ _ (Oper.mk _ (Op.store 70 _ _) _ _ _ _ :: _) _ _); refine storeIn (HONE.out) rfl rfl rfl rfl sizeA ?_))
      exact ⟨by rw [hsz]; exact hkf5.trans (hR.from _), hkp5.trans hQ, by show HoldsL _ _ _ _ _ _ _ _ _ _; rw [HST.out, e]; exact HP.out, hB5.trans hT⟩
    · have ho : S.ok = true := by simpa using ho
      rw [ho] at hf
      by_cases hlt2 : c x.1 < S.v
      · have e : lsStep c S x.1 = ⟨x.1, c x.1, true⟩ := lsStep_yes (.inr hlt2)
        have HP := Lib.hid hP
        have hlt3 : decide (c x.1 < S.v) = true := decide_eq_true hlt2
        clear ho hP
        generalize c x.1 = cv at *
        generalize S.v = sv at *
        gi_wp2_with (first | ((with_reducible show wpListIn _ _ _ _ _ (Oper.mk _ (Op.load 70 _) _ _ _ _ :: _) _ _); refine loadIn (hx) rfl rfl rfl Try.underlying70 rfl sizeA ?_) | ((with_reducible show wpListIn _ _ _ _ _ (Oper.mk _ (Op.store 70 _ _) _ _ _ _ :: _) _ _); refine storeIn (HONE.out) rfl rfl rfl rfl sizeA ?_))
        exact ⟨by rw [hsz]; exact hkf5.trans (hR.from _), hkp5.trans hQ, by show HoldsL _ _ _ _ _ _ _ _ _ _; rw [HST.out, e]; exact HP.out, hB5.trans hT⟩
      · have e : lsStep c S x.1 = S := lsStep_no (fun q => q.elim (fun q => by rw [ho] at q; cases q) (fun q => hlt2 q))
        clear ho hP hQ hR hT c8 f8 c9 f9
        generalize hcv : c x.1 = cv at *
        generalize hsv : S.v = sv at *
        gi_wp2
        exact ⟨by rw [hsz]; exact hkf5, hkp5, by show HoldsL _ _ _ _ _ _ _ _ _ _; rw [HST.out, e]; exact HH5.out, hB5⟩
  case done =>
    rintro D ys W hD hys ⟨hH, hBl⟩ hK
    have hys : vals ys = plA f := hys
    rw [hys] at hH
    clear hys
    obtain ⟨S, hS⟩ : ∃ S, S = lsF c (plA f) := ⟨_, rfl⟩
    rw [← hS] at hH
    have HS := Lib.hid hS
    clear hS
    gi_wp2
    refine wpIn_mono ?_ NoPanic.out
    refine wpIn_wide.2 ?_
    refine wp_region_held_drew (S := fun W => Blk W (w.heap.size + 1 + 1 + 1) 3 (plF S.p) 70 ∧ Boxed W (w.heap.size + 1 + 1 + 1 + 1) 3 (.int .i64 S.v) ∧ Boxed W (w.heap.size + 1 + 1 + 1 + 1 + 1) 4 (.bool S.ok)) (by kernel_rfl) (⟨hH.one.drew, hH.num, hH.yes⟩) (fun hHeld => ?_)
    have KR : Blk W.drew (w.heap.size + 1 + 1) 3 (fun _ => 0) 70 := hH.res.drew
    have KO : Blk W.drew (w.heap.size + 1 + 1 + 1) 3 (plF S.p) 70 := hH.one.drew
    have K8 : Boxed W.drew (w.heap.size + 1 + 1 + 1 + 1) 3 (.int .i64 S.v) := hH.num
    have K9 : Boxed W.drew (w.heap.size + 1 + 1 + 1 + 1 + 1) 4 (.bool S.ok) := hH.yes
    have HX : Hid (Below w.heap.size w W.drew) := (HB0.out.trans hBl).drew
    have HKD : Hid (W.drew.heap[D]? = some (.deferred (some []))) := hK
    clear hH hBl hK
    generalize W.drew = x0 at *
    refine wpAnyH_take (i := 0) (oi := { dst := some 30, op := _, type := _, pos := _, after := _, guard := _ }) (v := .agg (mk 3 (plF S.p))) rfl (by kernel_rfl) (by kernel_rfl) (by kernel_rfl) (fun _ _ _ h => h) (Or.inl ⟨by rfl, fun _ q => exec_load_blk _ _ rfl rfl q.1 Try.underlying70 rfl sizeA⟩) (by assumption) ?_
    try simp only [Act.put, List.setIfInBounds_toArray, List.set_cons_zero, List.set_cons_succ]
    refine wpAnyH_take (i := 1) (oi := { dst := some 31, op := _, type := _, pos := _, after := _, guard := _ }) (v := .int .i64 S.v) rfl (by kernel_rfl) (by kernel_rfl) (by kernel_rfl) (fun _ _ _ h => h) (Or.inl ⟨by rfl, by intro W q; have c0 := q.2.1.cell; clear q; go_simp⟩) (by assumption) ?_
    try simp only [Act.put, List.setIfInBounds_toArray, List.set_cons_zero, List.set_cons_succ]
    refine wpAnyH_take (i := 2) (oi := { dst := some 32, op := _, type := _, pos := _, after := _, guard := _ }) (v := .bool S.ok) rfl (by kernel_rfl) (by kernel_rfl) (by kernel_rfl) (fun _ _ _ h => h) (Or.inl ⟨by rfl, by intro W q; have c0 := q.2.2.cell; clear q; go_simp⟩) (by assumption) ?_
    try simp only [Act.put, List.setIfInBounds_toArray, List.set_cons_zero, List.set_cons_succ]
    refine wpAnyH_ready (rs := [3]) (by kernel_rfl) (by simp) ?_
    refine AllReadyH.cons rfl (fun K hK => ?_) AllReadyH.nil
    have hst := run_store_blk (P := Try.prog) (plF S.p) KR
    have ms1 : (mk 3 (plF S.p)).size = 3 := mk_size 3 _
    go_simp
    clear hst ms1
    have g1 := grown_rowP KR (mk 3 (plF S.p))
    have KO := KO.grown g1 (sne (by omega))
    have K8 := K8.kept g1 (sne (by omega))
    have K9 := K9.kept g1 (sne (by omega))
    have KR := KR.row 3 (plF S.p)
    have HX : Hid (Below w.heap.size w (x0.setRow (w.heap.size + 1 + 1) (mk 3 (plF S.p)))) := below_setRow HX.out (by omega) _
    have HKD : Hid ((x0.setRow (w.heap.size + 1 + 1) (mk 3 (plF S.p))).heap[D]? = some (.deferred (some []))) := (setRow_other x0 (w.heap.size + 1 + 1) D _ (by omega)).trans HKD.out
    clear g1 hHeld
    generalize x0.setRow (w.heap.size + 1 + 1) (mk 3 (plF S.p)) = x1 at *
    refine hK.out _ _ ⟨KO, K8, K9⟩ (fun hHeld => ?_)
    clear hK K
    try simp only [Act.put, List.setIfInBounds_toArray, List.set_cons_zero, List.set_cons_succ]
    refine wpAnyH_take (i := 4) (oi := { dst := some 5, op := _, type := _, pos := _, after := _, guard := _ }) (v := .int .i64 S.v) rfl (by kernel_rfl) (by kernel_rfl) (by kernel_rfl) (fun _ _ _ h => h) (Or.inl ⟨by rfl, by intro w hSw; clear hSw; go_simp; (try with_reducible rfl)⟩) (by assumption) ?_
    try simp only [Act.put, List.setIfInBounds_toArray, List.set_cons_zero, List.set_cons_succ]
    refine wpAnyH_take (i := 5) (oi := { dst := some 6, op := _, type := _, pos := _, after := _, guard := _ }) (v := .bool S.ok) rfl (by kernel_rfl) (by kernel_rfl) (by kernel_rfl) (fun _ _ _ h => h) (Or.inl ⟨by rfl, by intro w hSw; clear hSw; go_simp; (try with_reducible rfl)⟩) (by assumption) ?_
    try simp only [Act.put, List.setIfInBounds_toArray, List.set_cons_zero, List.set_cons_succ]
    refine wpAnyH_done (by kernel_rfl) ?_ _
    clear hHeld
    show NoPanic (Exit.then _ _) .normal _ _
    simp only [NoPanic, Exit.then]
    gi_wp2
    refine ⟨by simp, .inl ⟨_, _, rfl, run_takeDeferred HKD.out, ?_⟩⟩
    have KR2 : Blk (x1.putObj D (.deferred none)) (w.heap.size + 1 + 1) 3 (plF S.p) 70 := KR.grown (grownBy_putObj' x1 D _) (sne (by omega))
    rw [← HS.out]
    refine ⟨_, results_ctt KR2 Try.underlying70 rfl sizeA rfl rfl, rfl, HX.out.trans (belowK_b (w := w) (Nat.le_refl _) x1 D _ _ (by omega) HKD.out rfl rfl)⟩
  case stop =>
    rintro D c pre W _ h _
    exact h.elim
end Go.Proofs.Ytlboglcpbbnbcab
