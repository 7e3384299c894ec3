/-
  The contract of the program's lasts, by induction on the number of moves.
-/
import Derived.Test.YtlboglcpbbnbcaaLastSafe
namespace Go.Proofs.Ytlboglcpbbnbcaa
open Go.RowKit Go.Shelf Plain
attribute [local go_sem] store_new Oper.semAt_some
set_option linter.unusedVariables false
set_option linter.unusedSimpArgs false

theorem sizeO : (Try.prog.info? 107).map (·.size) = some 17 := by kernel_rfl
theorem zero17 : (#[.int .i64 0, .int .i64 0, .int .i64 0, .int .i64 0, .int .i64 0, .int .i64 0, .int .i64 0, .int .i64 0, .int .i64 0, .int .i64 0, .int .i64 0, .int .i64 0, .int .i64 0, .int .i64 0, .int .i64 0, .int .i64 0, .int .i64 0] : Array Value) = mk 17 (fun _ => 0) := rfl
theorem zeroB8 (w : World) : (zeroValue 4).run Try.prog w = .ok (.bool false) w := by kernel_rfl
theorem run_buildO (f : Nat → Int) (n : Nat) (w : World) : (Instr.build 107 #[(0, .agg (mk 16 f)), (1, .int .i64 (n : Int))]).run Try.prog w = .ok (.agg (mk 17 (okF f n))) w := by kernel_rfl
theorem exec_buildO {o : Oper} {ev : Operand → Value} {w : World} (x y : Operand) (ho : o.op = .build 107 #[(0, x), (1, y)]) {f : Nat → Int} {n : Nat}
    (hx : ev x = .agg (mk 16 f)) (hy : ev y = .int .i64 (n : Int)) : (execOp ev o).run Try.prog w = .ok (.value (.agg (mk 17 (okF f n)))) w := by
  have hr := run_buildO f n w
  simp [execOp, ho, hx, hy, hr, Result.andThen]
theorem lookIn {F : Fence} {n : Nat} {w : World} {ops : Array Oper} {rest : List Oper} {o : Oper} {a : Act} {Q : Exit → Act → World → Prop} (m x : Operand) (hg : o.guard = none) (ho : o.op = .lookup 78 m x true)
    {K : Nat} {g : Nat → Int} (hm : a.eval m = .map (some K)) (hx : a.eval x = .agg (mk 17 g)) {c s : Bool} (hrun : (Instr.lookup 78 (.map (some K)) (.agg (mk 17 g)) true).run Try.prog w = .ok (.tuple #[.bool c, .bool s]) w)
    (h : wpListIn F n Try.prog ops Q rest (a.put o.dst (.tuple #[.bool c, .bool s])) w) : wpListIn F n Try.prog ops Q (o :: rest) a w :=
  wpListIn_exec hg (fun c e => by rw [ho] at e; cases e) (by simp [Oper.about, ho]) (by simp [execOp, ho, hm, hx, hrun, Result.andThen]) h
theorem putIn {F : Fence} {n : Nat} {w w' : World} {ops : Array Oper} {rest : List Oper} {o : Oper} {a : Act} {Q : Exit → Act → World → Prop} (m x y : Operand) (hg : o.guard = none) (ho : o.op = .mapUpdate 78 m x y)
    {K : Nat} {g : Nat → Int} {b : Bool} (hm : a.eval m = .map (some K)) (hx : a.eval x = .agg (mk 17 g)) (hy : a.eval y = .bool b) (hrun : (Instr.mapUpdate 78 (.map (some K)) (.agg (mk 17 g)) (.bool b)).run Try.prog w = .ok () w')
    (h : wpListIn F n Try.prog ops Q rest (a.put o.dst undef) w') : wpListIn F n Try.prog ops Q (o :: rest) a w := by
  refine wpListIn_plain hg fun C hC => ?_
  unfold Oper.wpIn
  refine ⟨fun f hf => (by simp [Oper.about, ho] at hf), ?_⟩
  rw [Oper.semAt_plain F _ _ (fun c e => by rw [ho] at e; cases e)]
  unfold execOp
  simp only [ho, hm, hx, hy, Sem.run_bind, Sem.run_pure, Result.andThen_ok, hrun]
  exact hC _ _ h
theorem Via.more {K : Nat} {w A B : World} {row : Option Nat} (h : Via K w A) (hg : A.grownBy B row) (hr : ∀ r, row = some r → w.heap.size ≤ r) : Via K w B := by
  obtain ⟨h1, ⟨es, c, q⟩, es2, c2, q2⟩ := h
  have hK := (Array.getElem?_eq_some_iff.1 q).1
  have hne : ∀ k, k < w.heap.size → some k ≠ row := fun k hk e => by have := hr k e.symm; omega
  refine ⟨⟨hg.os.trans h1.os, hg.tape.trans h1.tape, hg.output.trans h1.output, Nat.le_trans h1.size hg.size, fun k hk hkr => ?_⟩, ⟨es, c, q⟩, es2, c2, (hg.block K (Array.getElem?_eq_some_iff.1 q2).1 (hne K hK)).trans q2⟩
  exact (hg.block k (Nat.lt_of_lt_of_le hk h1.size) (hne k hk)).trans (h1.block k hk hkr)
theorem last_zero8 : LSn 0 := by
  intro f K m w hV hG hm
  have K1 := Blk.new w 16 f 29
  have HB := Lib.hid ((Below.refl w.heap.size w).alloc (Nat.le_refl _) (.cells (mk 16 f) 29))
  have HG := Lib.hid (hG.alloc (.cells (mk 16 f) 29))
  have HM := Lib.hid hG.map
  clear hV hG hm
  rw [last_zero]
  show Calls _ _ #[_, _, .int .i64 0] _ _
  refine (callsIn_wide (n := 8)).1 ?_
  refine callsIn_of_wp_marks Try.func62 rfl trivial ?_ rfl
  simp only [Try.ntmps62, List.size_toArray, List.length_cons, List.length_nil, Nat.reduceAdd, Nat.reduceSub, Array.replicate_succ, Array.replicate_zero, List.push_toArray, List.append_toArray, List.nil_append, List.cons_append]
  gi_wp2
  show LeavesInM _ _ _ _ _ _ _ _ _
  exact ⟨_, results_tmp rfl _ _ _, rfl, Via.low HB.out HM.out, HG.out.more (by omega)⟩
theorem over_viaA {α : Type} {n K : Nat} (h1 : 1 ≤ n) {g : Operand} {ps : Array Tmp} {assign body : Code} {Q : Exit → Act → World → Prop} {a : Act} {w : World}
    {gf : Nat} {lb : Array Value} (hg : a.eval g = .func (.func gf) #[] lb) (eg : ∀ args w, (callFunc gf args).run Try.prog w = .ok (.enter gf args) w)
    {encs : α → Array Value} {Kp : World → World → Prop} {T : World → Prop} {S Sp : List α → Prop} {N : Nat} (hseq : SeqVia (n - 1) K gf lb encs Kp T S Sp N w)
    (hKt : ∀ {A B C : World}, Kp A B → Kp B C → Kp A C) (hKb : ∀ (W : World) (l : Nat) (r : Loop) (o : Obj), w.heap.size ≤ l → W.heap[l]? = some (.loop r) → Kp W (W.putObj l o)) (hps : ∀ x, (encs x).size = ps.size)
    (I : List α → World → Prop) (Ix : Code → List α → World → Prop) (hI : OwnFrom w.heap.size I) (hIx : ∀ c, OwnFrom w.heap.size (Ix c)) (hIv : ∀ s A B, I s A → Via K A B → I s B) (hIxv : ∀ c s A B, Ix c s A → Via K A B → Ix c s B) (h0 : I [] w)
    (hT : ∀ W l o, w.heap.size ≤ l → T W → T (W.putObj l o)) (A : α → Act)
    (hassign : ∀ (l : Nat) (pre : List α) (x : α) (W : World) (C : Act → World → Prop), I pre W → (∀ W', KeepsFrom w.heap.size W W' → Kp W W' → I pre W' → C (A x) W') →
      assign.wpIn (Fence.wide.inRound l) (n - 1 - 1) Try.prog (Exit.then C (fun _ _ _ => False)) { tmps := (ps.zip (encs x)).foldl (fun t (p, v) => t.setIfInBounds p v) a.tmps, defers := [] } W)
    (hbody : ∀ (l : Nat) (pre : List α) (x : α) (W : World), w.heap.size ≤ l → I pre W → pre.length < N → body.wpIn (Fence.wide.inRound l) (n - 1 - 1) Try.prog (viaPost w.heap.size Kp I Ix (pre ++ [x]) W) (A x) W)
    (hdone : ∀ (D : Nat) (xs : List α) (W : World), w.heap.size ≤ D → S xs → I xs W → T W → W.heap[D]? = some (.deferred (some [])) → Q .normal { a with defers := { target := .collected D, args := #[] } :: a.defers } W)
    (hstop : ∀ (D : Nat) (c : Code) (pre : List α) (W : World), w.heap.size ≤ D → Sp pre → Ix c pre W → T W → W.heap[D]? = some (.deferred (some [])) → c.wpIn Fence.wide n Try.prog Q { a with defers := { target := .collected D, args := #[] } :: a.defers } W) :
    (Code.rangeFunc g ps assign body).wpIn Fence.wide n Try.prog Q a w :=
  over_via h1 hg eg hseq hKt hKb hps I Ix hI hIx hIv hIxv h0 (fun x a' _ => a' = A x) (fun _ _ _ _ _ _ hs _ _ => hs) hT
    (fun l pre x W C hi hC => hassign l pre x W C hi fun W' k1 k2 k3 => hC _ W' k1 k2 k3 rfl) (fun l pre x a' W hl hi e hlt => by subst e; exact hbody l pre x W hl hi hlt) hdone hstop
set_option maxRecDepth 100000 in
set_option maxHeartbeats 4000000 in
theorem last_step {n : Nat} (hL : LSn n) (hn : n ≤ 2) : LSn (n + 1) := by
  intro f K m w hV hG hm
  have hcst : cst (n + 1) = 1 + 128 * cst n := rfl
  rw [hcst] at hm
  refine (callsIn_wide (n := 8)).1 ?_
  have z17 := zero17
  have hKw := hG.lt
  have K1 := Blk.new w 16 f 29
  have K1b := K1.alloc (.cells (mk 17 (okF f (n + 1))) 107)
  have K7 := Blk.new (w.alloc (.cells (mk 16 f) 29)) 17 (okF f (n + 1)) 107
  have HB2 := Lib.hid (((Below.refl w.heap.size w).alloc (Nat.le_refl _) (.cells (mk 16 f) 29)).alloc (by simp) (.cells (mk 17 (okF f (n + 1))) 107))
  have HG2 := Lib.hid ((hG.alloc (.cells (mk 16 f) 29)).alloc (.cells (mk 17 (okF f (n + 1))) 107))
  simp only [World.size_alloc] at K7
  obtain ⟨c, s, hlook, hs1, hs2⟩ := HG2.out.look (zeroB8 _) (f := f) (n := n + 1) hV (by omega)
  have HM := Lib.hid hG.map
  have HV := Lib.hid hV
  have HLK := Lib.hid hlook
  have HS1 := Lib.hid hs1
  have HS2 := Lib.hid hs2
  have HL := Lib.hid hL
  have hne : (((n + 1 : Nat) : Int) == 0) = false := by rw [beq_eq_false_iff_ne]; omega
  have HNN : Hid (((n + 1 : Nat) : Int) - 1 = (n : Int)) := by show _ = _; omega
  clear hlook hs1 hs2 hL hV hG
  refine callsIn_of_wp_marks Try.func62 rfl trivial ?_ rfl
  simp only [Try.ntmps62, List.size_toArray, List.length_cons, List.length_nil, Nat.reduceAdd, Nat.reduceSub, Array.replicate_succ, Array.replicate_zero, List.push_toArray, List.append_toArray, List.nil_append, List.cons_append]
  cases s with
  | true =>
    have HC : Hid (c = lastF (n + 1) f) := HS1.out rfl
    clear HS1 HS2
    gi_wp2_with (first | ((with_reducible show wpListIn _ _ _ _ _ (Oper.mk _ (Op.load 29 _) _ _ _ _ :: _) _ _); refine loadIn (K1) rfl rfl rfl Try.underlying29 rfl sizeB ?_) | ((with_reducible show wpListIn _ _ _ _ _ (Oper.mk _ (Op.load 29 _) _ _ _ _ :: _) _ _); refine loadIn (K1b) rfl rfl rfl Try.underlying29 rfl sizeB ?_) | ((with_reducible show wpListIn _ _ _ _ _ (Oper.mk _ (Op.load 107 _) _ _ _ _ :: _) _ _); refine loadIn (K7) rfl rfl rfl Try.underlying107 rfl sizeO ?_) | ((with_reducible show wpListIn _ _ _ _ _ (Oper.mk _ (Op.build 107 _) _ _ _ _ :: _) _ _); refine wpListIn_exec rfl (fun _ h => by cases h) rfl (exec_buildO (f := f) (n := n + 1) _ _ rfl rfl rfl) ?_) | ((with_reducible show wpListIn _ _ _ _ _ (Oper.mk _ (Op.lookup _ _ _ _) _ _ _ _ :: _) _ _); refine lookIn _ _ rfl rfl rfl rfl HLK.out ?_))
    show LeavesInM _ _ _ _ _ _ _ _ _
    refine ⟨_, results_tmp rfl _ _ _, by rw [← HC.out]; rfl, ?_, ?_⟩
    · exact Via.low (HB2.out.alloc HB2.out.size _) HM.out
    · exact (HG2.out.alloc _).more (by omega)
  | false =>
    obtain rfl : c = false := HS2.out rfl
    clear HS1 HS2
    have K1c := K1b.alloc (.cells #[.bool false] 4)
    have K7c := K7.alloc (.cells #[.bool false] 4)
    have K8 := Boxed.new ((w.alloc (.cells (mk 16 f) 29)).alloc (.cells (mk 17 (okF f (n + 1))) 107)) 4 (.bool false)
    simp only [World.size_alloc] at K8
    gi_wp2_with (first | ((with_reducible show wpListIn _ _ _ _ _ (Oper.mk _ (Op.load 29 _) _ _ _ _ :: _) _ _); refine loadIn (K1) rfl rfl rfl Try.underlying29 rfl sizeB ?_) | ((with_reducible show wpListIn _ _ _ _ _ (Oper.mk _ (Op.load 29 _) _ _ _ _ :: _) _ _); refine loadIn (K1b) rfl rfl rfl Try.underlying29 rfl sizeB ?_) | ((with_reducible show wpListIn _ _ _ _ _ (Oper.mk _ (Op.load 29 _) _ _ _ _ :: _) _ _); refine loadIn (K1c) rfl rfl rfl Try.underlying29 rfl sizeB ?_) | ((with_reducible show wpListIn _ _ _ _ _ (Oper.mk _ (Op.load 107 _) _ _ _ _ :: _) _ _); refine loadIn (K7) rfl rfl rfl Try.underlying107 rfl sizeO ?_) | ((with_reducible show wpListIn _ _ _ _ _ (Oper.mk _ (Op.build 107 _) _ _ _ _ :: _) _ _); refine wpListIn_exec rfl (fun _ h => by cases h) rfl (exec_buildO (f := f) (n := n + 1) _ _ rfl rfl rfl) ?_) | ((with_reducible show wpListIn _ _ _ _ _ (Oper.mk _ (Op.lookup _ _ _ _) _ _ _ _ :: _) _ _); refine lookIn _ _ rfl rfl rfl rfl HLK.out ?_))
    first | refine ⟨trivial, fun _ => by omega, ?_⟩ | refine ⟨trivial, ?_⟩
    refine (callsIn_wide.2 (safe_in K f _ _)).mono ?_
    rintro e w4 ⟨rfl, hw4⟩
    obtain ⟨w3, hw3⟩ : ∃ w3, w3 = ((w.alloc (.cells (mk 16 f) 29)).alloc (.cells (mk 17 (okF f (n + 1))) 107)).alloc (.cells #[.bool false] 4) := ⟨_, rfl⟩
    have hs3 : w3.heap.size = w.heap.size + 3 := by rw [hw3]; simp
    have HB3 : Hid (Below w.heap.size w w3) := by show Below _ _ _; rw [hw3]; exact HB2.out.alloc HB2.out.size _
    have HG3 : Hid (Good w3 K m) := by show Good _ _ _; rw [hw3]; exact HG2.out.alloc _
    rw [← hw3] at hw4 K1c K7c K8
    rw [← hw3]
    clear hw3 K1 K1b K7 HLK HB2 HG2
    have KKB := ((Boxed.new w3 78 (.map (some K))).alloc (.cells (mk 16 f) 29)).alloc (.cells #[.int .i64 ((n : Int) + 1)] 3)
    have KBB := (Blk.new (w3.alloc (.cells #[.map (some K)] 78)) 16 f 29).alloc (.cells #[.int .i64 ((n : Int) + 1)] 3)
    have KNB := Boxed.new ((w3.alloc (.cells #[.map (some K)] 78)).alloc (.cells (mk 16 f) 29)) 3 (.int .i64 ((n : Int) + 1))
    simp only [World.size_alloc] at KBB KNB
    have K7d := ((K7c.alloc (.cells #[.map (some K)] 78)).alloc (.cells (mk 16 f) 29)).alloc (.cells #[.int .i64 ((n : Int) + 1)] 3)
    have K8d := ((K8.alloc (.cells #[.map (some K)] 78)).alloc (.cells (mk 16 f) 29)).alloc (.cells #[.int .i64 ((n : Int) + 1)] 3)
    have HG4 : Hid (Good w4 K m) := by show Good _ _ _; rw [hw4]; exact ((HG3.out.alloc _).alloc _).alloc _
    have HB4 : Hid (Below w.heap.size w w4) := by show Below _ _ _; rw [hw4]; exact ((HB3.out.alloc HB3.out.size _).alloc (by simp; omega) _).alloc (by simp; omega) _
    have hs4 : w4.heap.size = w.heap.size + 6 := by rw [hw4]; simp; omega
    rw [← hw4] at KKB KBB KNB K7d K8d
    clear hw4 K1c K7c K8 HB3 HG3
    have HV4 : Hid (Via K w w4) := Via.low HB4.out HM.out
    have hKn : K < w4.heap.size := by omega
    rw [hs3] at KKB KBB KNB ⊢
    have HSEQ := Lib.hid (fun (l : Nat) (J Jx : List Nat → World → Prop) (W : World) (hb : Below w4.heap.size w4 W) (hj : ∀ s A X, J s A → Via K A X → J s X) (hjx : ∀ s A X, Jx s A → Via K A X → Jx s X)
      (hjd : ∀ s A D x o, J s A → W.heap.size ≤ D → A.heap[D]? = some (.deferred x) → J s (A.putObj D o)) (hjxd : ∀ s A D x o, Jx s A → W.heap.size ≤ D → A.heap[D]? = some (.deferred x) → Jx s (A.putObj D o)) hY h0 =>
      safe1_in 7 l (w.heap.size + 3 + 1) (w.heap.size + 3) (w.heap.size + 3 + 1 + 1) K m n w4.heap.size ((n : Int) + 1) f (by omega) HV.out HL.out (by omega) hn (by omega) J Jx W hb.size (by omega) (by omega) (by omega) (by omega) hj hjx hjd hjxd hY
        (KBB.below hb KBB.lt) (box_low KKB hb) (box_low KNB hb) (HG4.out.low hb) h0)
    have HN7 := Lib.hid HNN
    have hHm := Lib.hid hm
    clear hm HNN hcst hne
    gi_wp2
    refine over_viaA (α := Nat) (K := K) (n := 8) (by omega) rfl safe_enters (encs := fun x => #[.int .i64 (x : Int)]) (Kp := KpS (w.heap.size + 3 + 1) (w.heap.size + 3) (w.heap.size + 3 + 1 + 1) K w4.heap.size) (T := fun W => Good W K (m + 128 * cst n)) (S := fun xs => xs = sfL n f 4) (Sp := fun pre => ∃ M, sfL n f 4 = pre ++ M) (N := 4)
      HSEQ.out (fun h k => h.trans k) (KpS.book (by omega) (by omega) (by omega) hKn) (fun x => rfl)
      (fun pre W => pre = [] ∧ Via K w W ∧ Boxed W (w.heap.size + 1 + 1) 4 (.bool false) ∧ Blk W (w.heap.size + 1) 17 (okF f (n + 1)) 107)
      (fun c pre W => c = .exit 0 ∧ pre ≠ [] ∧ Via K w W ∧ Boxed W (w.heap.size + 1 + 1) 4 (.bool true) ∧ Blk W (w.heap.size + 1) 17 (okF f (n + 1)) 107)
      (OwnFrom.and (ownFrom_pure _ _) (OwnFrom.and (ownFrom_via (by omega)) (OwnFrom.and (Own.from (boxed_own _ _ (fun _ => _)) _) (Own.from (blk_own _ _ _ _) _))))
      (fun c => OwnFrom.and (ownFrom_pure _ _) (OwnFrom.and (ownFrom_pure _ _) (OwnFrom.and (ownFrom_via (by omega)) (OwnFrom.and (Own.from (boxed_own _ _ (fun _ => _)) _) (Own.from (blk_own _ _ _ _) _)))))
      (fun s A B h v => ⟨h.1, h.2.1.trans v, v.box h.2.2.1, v.blk h.2.2.2⟩) (fun c s A B h v => ⟨h.1, h.2.1, h.2.2.1.trans v, v.box h.2.2.2.1, v.blk h.2.2.2.2⟩) ⟨rfl, HV4.out, K8d, K7d⟩
      (fun W l o hl g => g.kept (grownBy_putObj' W l o) (by simp; omega)) ?A ?assign ?body ?done ?stop
    case assign =>
      rintro l pre x Wx C ⟨hp, hv, h8, h7⟩ hC
      have hq := hC Wx (KeepsFrom.refl _ _) ⟨Nat.le_refl _, rfl, rfl, rfl, fun m g => g, fun D x _ h => h⟩ ⟨hp, hv, h8, h7⟩
      clear hC
      gi_wp2
      exact hq
    case body =>
      rintro l pre x Wx hl ⟨hp, hv, h8, h7⟩ hlt
      have c8 := h8.cell
      have f8 := h8.frozen
      have h8b := h8.set (.bool true)
      have hg := grownBy_setCell' Wx (w.heap.size + 1 + 1) (.bool true)
      have h7b := h7.grown hg (sne (by omega))
      have hvb := hv.more hg (fun r e => by cases e; omega)
      have hsz := hv.1.size
      have hs8 := h8.lt
      have HQ : Hid (KeepsFrom w4.heap.size Wx (Wx.setCell ⟨w.heap.size + 1 + 1, 0, none⟩ (.bool true)) ∧ KpS (w.heap.size + 3 + 1) (w.heap.size + 3) (w.heap.size + 3 + 1 + 1) K w4.heap.size Wx (Wx.setCell ⟨w.heap.size + 1 + 1, 0, none⟩ (.bool true))) := by
        refine ⟨(KeepsOthers.setCell _ _ _).from _, ⟨hg.size, ?_, ?_, ?_, fun m g => g.kept hg (by simp; omega), fun D x hD hx => (hg.block D (Array.getElem?_eq_some_iff.1 hx).1 (by simp; omega)).trans hx⟩⟩
        · exact Below.heap_setCell Wx _ _ _ (by dsimp only; omega)
        · exact Below.heap_setCell Wx _ _ _ (by dsimp only; omega)
        · exact Below.heap_setCell Wx _ _ _ (by dsimp only; omega)
      have HX := Lib.hid (And.intro hvb (And.intro h8b h7b))
      clear h8b hg h7b hvb hv h8 h7 hp hsz hs8
      gi_wp2
      exact ⟨HQ.out.1, HQ.out.2, rfl, by simp, HX.out.1, HX.out.2.1, HX.out.2.2⟩
    case done =>
      rintro D xs Wx hD hS ⟨hp, hv, h8, h7⟩ hT hK
      have hlf : lastF (n + 1) f = false := by rw [last_sfL, ← hS, hp]; rfl
      have hD2 : w.heap.size + 6 ≤ D := by omega
      obtain ⟨w8, hput, hG8, hg8⟩ := hT.put (by have := hHm.out; unfold maxLen; omega) HV.out (n := n + 1) (by omega)
      rw [hlf] at hput
      have hKD : some D ≠ some K := fun e => by have := Option.some.inj e; omega
      have hK8 : w8.heap[D]? = some (.deferred (some [])) := (hg8.block D (Array.getElem?_eq_some_iff.1 hK).1 hKD).trans hK
      have hvx : Via K Wx w8 := ⟨hg8, hT.map, hG8.map⟩
      have h8x := hvx.box h8
      have c8 := h8.cell
      have c8x := h8x.cell
      have HLF := Lib.hid hlf
      have HPT := Lib.hid hput
      have HFI : Hid (Via K w (w8.putObj D (.deferred none)) ∧ Good (w8.putObj D (.deferred none)) K (m + (1 + 128 * cst n))) :=
        ⟨(hv.trans hvx).more (grownBy_putObj' w8 D _) (fun r e => by cases e; omega), (hG8.kept (grownBy_putObj' w8 D _) (fun e => hKD e.symm)).more (by omega)⟩
      have HK8 := Lib.hid hK8
      clear hlf hput hKD hK8 hvx h8x hG8 hg8 hT hK hv h8
      gi_wp2_with (first | ((with_reducible show wpListIn _ _ _ _ _ (Oper.mk _ (Op.load 107 _) _ _ _ _ :: _) _ _); refine loadIn (h7) rfl rfl rfl Try.underlying107 rfl sizeO ?_) | ((with_reducible show wpListIn _ _ _ _ _ (Oper.mk _ (Op.mapUpdate _ _ _ _) _ _ _ _ :: _) _ _); refine putIn _ _ _ rfl rfl rfl rfl rfl HPT.out ?_))
      show LeavesInM _ _ _ _ _ _ _ _ _
      refine ⟨by simp, .inl ⟨D, _, rfl, run_takeDeferred HK8.out, ?_⟩⟩
      exact ⟨_, results_tmp rfl _ _ _, by rw [HLF.out]; rfl, HFI.out.1, HFI.out.2⟩
    case stop =>
      rintro D c pre Wx hD ⟨M, hM⟩ ⟨rfl, hne, hv, h8, h7⟩ hT hK
      have hlf : lastF (n + 1) f = true := by rw [last_sfL, hM]; cases pre <;> simp_all
      clear hM hne
      have hD2 : w.heap.size + 6 ≤ D := by omega
      obtain ⟨w8, hput, hG8, hg8⟩ := hT.put (by have := hHm.out; unfold maxLen; omega) HV.out (n := n + 1) (by omega)
      rw [hlf] at hput
      have hKD : some D ≠ some K := fun e => by have := Option.some.inj e; omega
      have hK8 : w8.heap[D]? = some (.deferred (some [])) := (hg8.block D (Array.getElem?_eq_some_iff.1 hK).1 hKD).trans hK
      have hvx : Via K Wx w8 := ⟨hg8, hT.map, hG8.map⟩
      have h8x := hvx.box h8
      have c8 := h8.cell
      have c8x := h8x.cell
      have HLF := Lib.hid hlf
      have HPT := Lib.hid hput
      have HFI : Hid (Via K w (w8.putObj D (.deferred none)) ∧ Good (w8.putObj D (.deferred none)) K (m + (1 + 128 * cst n))) :=
        ⟨(hv.trans hvx).more (grownBy_putObj' w8 D _) (fun r e => by cases e; omega), (hG8.kept (grownBy_putObj' w8 D _) (fun e => hKD e.symm)).more (by omega)⟩
      have HK8 := Lib.hid hK8
      clear hlf hput hKD hK8 hvx h8x hG8 hg8 hT hK hv h8
      gi_wp2_with (first | ((with_reducible show wpListIn _ _ _ _ _ (Oper.mk _ (Op.load 107 _) _ _ _ _ :: _) _ _); refine loadIn (h7) rfl rfl rfl Try.underlying107 rfl sizeO ?_) | ((with_reducible show wpListIn _ _ _ _ _ (Oper.mk _ (Op.mapUpdate _ _ _ _) _ _ _ _ :: _) _ _); refine putIn _ _ _ rfl rfl rfl rfl rfl HPT.out ?_))
      show LeavesInM _ _ _ _ _ _ _ _ _
      refine ⟨by simp, .inl ⟨D, _, rfl, run_takeDeferred HK8.out, ?_⟩⟩
      exact ⟨_, results_tmp rfl _ _ _, by rw [HLF.out]; rfl, HFI.out.1, HFI.out.2⟩
theorem last_all8 : ∀ n, n ≤ 3 → LSn n
  | 0, _ => last_zero8
  | n + 1, h => last_step (last_all8 n (by omega)) (by omega)
end Go.Proofs.Ytlboglcpbbnbcaa
