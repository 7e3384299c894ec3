/-
  The contracts of the program's safe and of the iterator that it hands back: the directions that are safe, while the map of what is known grows.
-/
import Derived.Test.YtlboglcpbbnbcaaLastMap
import Derived.Test.YtlboglcpbbnbcaaImplSure
namespace Go.Proofs.Ytlboglcpbbnbcaa
open Go.RowKit Go.Shelf Plain
attribute [local go_sem] store_new Oper.semAt_some
set_option linter.unusedVariables false
set_option linter.unusedSimpArgs false

theorem fieldSL (f : Nat → Int) (d : Nat) (w : World) : (Instr.field 109 (.agg (mk 18 (slideV f d))) 0).run Try.prog w = .ok (.agg (mk 16 (slideB f d))) w := by
  have h : mk 16 (slideB f d) = mk 16 (slideV f d) := mk_congr fun j hj => by unfold slideV; rw [if_pos hj]
  rw [h]
  exact fieldS0 _ w
theorem stepR_scope {P : Program} {b : Frame} {a : Act} {k : List Item} {cs : List Frame} {w : World} {c : Code} : step P (lone (b.atR a (.code (.scope c) :: k)) cs w) = .next (lone (b.atR a (.code c :: .inScope c :: k)) cs w) :=
  step_lone_go (by simp [stepG, stepG.exec, Frame.atR])
theorem stepR_inScope {P : Program} {b : Frame} {a : Act} {k : List Item} {cs : List Frame} {w : World} {c : Code} : step P (lone (b.atR a (.inScope c :: k)) cs w) = .next (lone (b.atR a k) cs w) :=
  step_lone_go (by simp [stepG, stepG.exec, Frame.atR])
theorem wpIn_scope {F : Fence} {n : Nat} {P : Program} {Q : Exit → Act → World → Prop} {a : Act} {w : World} {c : Code} (h : c.wpIn F n P (Exit.noGoto Q) a w) : (Code.scope c).wpIn F n P Q a w := by
  intro b k cs hro hb hr
  have h0 : (lone (b.atR a (.code (.scope c) :: k)) cs w).fenced P F := fenced_calm hb hr rfl
  obtain ⟨e, a₁, w₁, hq, harr⟩ := h b (.inScope c :: k) cs hro hb hr
  cases e with
  | normal => exact ⟨.normal, a₁, w₁, hq, .head h0 stepR_scope (StepsIn.trans harr (.one (fenced_calm hb hr rfl) stepR_inScope))⟩
  | exit id =>
    have hx : exitTo id (.inScope c :: k) = exitTo id k := by simp [exitTo]
    exact ⟨_, a₁, w₁, hq, fun k' hk => .head h0 stepR_scope (harr.1 k' (by rw [hx]; exact hk)),
      fun hr' hk => let ⟨k₁, h1, h2⟩ := harr.2 hr' (by rw [hx]; exact hk); ⟨k₁, h1, .head h0 stepR_scope h2⟩⟩
  | goto l => exact hq.elim
  | ret => exact ⟨_, a₁, w₁, hq, .of_steps (.one h0 stepR_scope) harr⟩
  | panic ch => exact ⟨_, a₁, w₁, hq, .of_steps (.one h0 stepR_scope) harr⟩
  | outgrown => exact ⟨_, a₁, w₁, hq, .of_steps (.one h0 stepR_scope) harr⟩
theorem safe_in (K : Nat) (f : Nat → Int) (N : Int) (w : World) :
    Calls Try.prog 65 #[.map (some K), .agg (mk 16 f), .int .i64 N] w fun e w' => e = .returned (.func (.func 86) #[] #[.pointer (some ⟨w.heap.size + 1, 0, none⟩), .pointer (some ⟨w.heap.size, 0, none⟩), .pointer (some ⟨w.heap.size + 1 + 1, 0, none⟩)]) ∧
      w' = ((w.alloc (.cells #[.map (some K)] 78)).alloc (.cells (mk 16 f) 29)).alloc (.cells #[.int .i64 N] 3) := by
  go_enter Try.func65, Try.ntmps65
  go_wp2
  go_ret
  exact ⟨rfl, rfl⟩
theorem safe_enters : ∀ args w, (callFunc 86 args).run Try.prog w = .ok (.enter 86 args) w := Go.Proofs.enters_of Try.func86 (by kernel_rfl) rfl
/-- How many entries a call may lay. -/
def cst : Nat → Nat
  | 0 => 0
  | n + 1 => 1 + 128 * cst n
/-- A board lasts n moves: what lasts returns, and what it does to the map. -/
def LSn (n : Nat) : Prop := ∀ (f : Nat → Int) (K m : Nat) (w : World), Vd f → Good w K m → m + cst n ≤ 60000 →
  Calls Try.prog 62 #[.map (some K), .agg (mk 16 f), .int .i64 (n : Int)] w fun e w' => e = .returned (.bool (lastF n f)) ∧ Via K w w' ∧ Good w' K (m + cst n)
/-- What a round must keep for the iterator. -/
structure KpS (B KB NB K n₀ : Nat) (W W' : World) : Prop where
  size : W.heap.size ≤ W'.heap.size
  one : W'.heap[B]? = W.heap[B]?
  two : W'.heap[KB]? = W.heap[KB]?
  three : W'.heap[NB]? = W.heap[NB]?
  good : ∀ m, Good W K m → Good W' K m
  marks : ∀ D x, n₀ ≤ D → W.heap[D]? = some (.deferred x) → W'.heap[D]? = some (.deferred x)
theorem KpS.trans {B KB NB K n₀ : Nat} {X Y Z : World} (h : KpS B KB NB K n₀ X Y) (k : KpS B KB NB K n₀ Y Z) : KpS B KB NB K n₀ X Z :=
  ⟨Nat.le_trans h.size k.size, k.one.trans h.one, k.two.trans h.two, k.three.trans h.three, fun m g => k.good m (h.good m g), fun D x hD hx => k.marks D x hD (h.marks D x hD hx)⟩
theorem KpS.book {B KB NB K n₀ : Nat} (h1 : B < n₀) (h2 : KB < n₀) (h3 : NB < n₀) (h4 : K < n₀) (W : World) (l : Nat) (r : Loop) (o : Obj) (hl : n₀ ≤ l) (hr : W.heap[l]? = some (.loop r)) : KpS B KB NB K n₀ W (W.putObj l o) :=
  ⟨(grownBy_putObj' W l o).size, World.putObj_heap_other (by omega), World.putObj_heap_other (by omega), World.putObj_heap_other (by omega), fun m g => g.kept (grownBy_putObj' W l o) (by simp; omega),
   fun D x hD hx => (World.putObj_heap_other (fun e => by subst e; rw [hr] at hx; cases hx)).trans hx⟩
theorem good_own {β : Type} {K B : Nat} (F : β → Nat) (hK : K < B) : OwnFrom B (fun s W => Good W K (F s)) := fun s X Y row hs hg hr =>
  hs.kept hg (fun e => by have := (hr K e.symm).1; omega)
theorem sfL_pre {n : Nat} {f : Nat → Int} (j : Nat) : ∀ i, ∃ M, sfL n f (j + i) = sfL n f j ++ M
  | 0 => ⟨[], by simp⟩
  | i + 1 => by
    obtain ⟨M, h⟩ := sfL_pre (n := n) (f := f) j i
    cases hs : sfF n f (j + i) with
    | true => exact ⟨M ++ [j + i], by rw [← Nat.add_assoc, sfL_yes hs, h, List.append_assoc]⟩
    | false => exact ⟨M, by rw [← Nat.add_assoc, sfL_no hs, h]⟩
theorem Marks.via {B KB NB K n₀ : Nat} {w w' : World} {b₀ : Nat} {ds : List Deferred} (h : Marks w b₀ ds) (hk : KpS B KB NB K n₀ w w') (hb : n₀ ≤ b₀) : Marks w' b₀ ds := by
  obtain ⟨Ds, h0, h1, h2⟩ := h
  exact ⟨Ds, h0, h1, fun D hD => ⟨(h2 D hD).1, hk.marks D _ (Nat.le_trans hb (h2 D hD).1) (h2 D hD).2⟩⟩
set_option maxRecDepth 100000 in
set_option maxHeartbeats 4000000 in
theorem safe1_in (nf l B KB NB K m n n₀ : Nat) (N : Int) (f : Nat → Int) (hnf : 3 ≤ nf) (hV : Vd f) (hL : LSn n) (hN : N - 1 = (n : Int)) (hn : n ≤ 2) (hm : m + 128 * cst n ≤ 60000) (J Jx : List Nat → World → Prop)
    (W : World) (hn0 : n₀ ≤ W.heap.size) (hBl : B < n₀) (hKl : KB < n₀) (hNl : NB < n₀) (hKK : K < n₀)
    (hJ : ∀ s A X, J s A → Via K A X → J s X) (hJx : ∀ s A X, Jx s A → Via K A X → Jx s X)
    (hJd : ∀ s A D x o, J s A → W.heap.size ≤ D → A.heap[D]? = some (.deferred x) → J s (A.putObj D o)) (hJxd : ∀ s A D x o, Jx s A → W.heap.size ≤ D → A.heap[D]? = some (.deferred x) → Jx s (A.putObj D o))
    (hY : ∀ pre x W1, J pre W1 → pre.length < 4 → YieldAt Fence.wide (nf - 1) Try.prog l #[.int .i64 ((x : Nat) : Int)] W1 fun e W' =>
      (e = .returned (.bool true) ∧ J (pre ++ [x]) W' ∧ KpS B KB NB K n₀ W1 W') ∨ (e = .returned (.bool false) ∧ Jx (pre ++ [x]) W' ∧ KpS B KB NB K n₀ W1 W'))
    (hB : Blk W B 16 f 29) (hKB : Boxed W KB 78 (.map (some K))) (hNB : Boxed W NB 3 (.int .i64 N)) (hG : Good W K m) (h0 : J [] W) :
    CallsIn Fence.wide nf Try.prog 86 #[.func (.yield l) #[] #[], .pointer (some ⟨B, 0, none⟩), .pointer (some ⟨KB, 0, none⟩), .pointer (some ⟨NB, 0, none⟩)] W fun e W' => (∃ v, e = .returned v) ∧ Good W' K (m + 128 * cst n) ∧
      ((∃ xs, xs = sfL n f 4 ∧ J xs W') ∨ (∃ pre, (∃ M, sfL n f 4 = pre ++ M) ∧ Jx pre W')) := by
  have z16 := zero16
  refine callsIn_of_wp_marks Try.func86 rfl trivial ?_ rfl
  simp only [Try.ntmps86, List.size_toArray, List.length_cons, List.length_nil, Nat.reduceAdd, Nat.reduceSub, Array.replicate_succ, Array.replicate_zero, List.push_toArray, List.append_toArray, List.nil_append, List.cons_append]
  gi_wp2
  refine wpIn_scope ?_
  gi_wp2
  refine wpIn_label ?_
  simp only [Exit.then]
  gi_wp2
  refine wpIn_loop (fun a wr => ∃ (k : Nat) (ds : List Deferred) (u4 u5 u6 u7 u8 u10 u11 u12 u13 u14 u15 u16 u17 u18 u19 u20 u21 u22 u23 u24 u25 u26 u27 u28 u29 u30 u31 u32 u33 : Value), a = { tmps := #[.func (.yield l) #[] #[], .pointer (some ⟨B, 0, none⟩), .pointer (some ⟨KB, 0, none⟩), .pointer (some ⟨NB, 0, none⟩), u4, u5, u6, u7, u8, .int .i64 (k : Int), u10, u11, u12, u13, u14, u15, u16, u17, u18, u19, u20, u21, u22, u23, u24, u25, u26, u27, u28, u29, u30, u31, u32, u33], defers := ds } ∧ k ≤ 4 ∧ Hid (Marks wr W.heap.size ds) ∧ Hid (J (sfL n f k) wr) ∧ Hid (Good wr K (m + k * (32 * cst n))) ∧ Blk wr B 16 f 29 ∧ Boxed wr KB 78 (.map (some K)) ∧ Boxed wr NB 3 (.int .i64 N) ∧ n₀ ≤ wr.heap.size ∧ Hid (W.heap.size ≤ wr.heap.size)) (fun a _ => 4 - (intOf (a.tmps.getD 9 undef)).toNat) ?atStart ?round
  case atStart =>
    refine ⟨0, [], _, _, _, _, _, _, _, _, _, _, _, _, _, _, _, _, _, _, _, _, _, _, _, _, _, _, _, _, _, rfl, by omega, Marks.nil _ _, h0, by show Good _ _ _; rw [Nat.zero_mul]; exact hG, hB, hKB, hNB, hn0, Nat.le_refl _⟩
  case round =>
    rintro a wr ⟨k, ds, u4, u5, u6, u7, u8, u10, u11, u12, u13, u14, u15, u16, u17, u18, u19, u20, u21, u22, u23, u24, u25, u26, u27, u28, u29, u30, u31, u32, u33, rfl, hk, HM, HJ, HG, K1, KK, KN, hw0, hwW⟩
    by_cases hk4 : k = 4
    · subst hk4
      gi_wp2
      show LeavesInM _ _ _ _ _ _ _ _ _
      obtain ⟨Ds, rfl, hnd, hDs⟩ := HM.out
      refine leaves_marks (n₀ := W.heap.size) (fun V => J (sfL n f 4) V ∧ Good V K (m + 128 * cst n)) ?_ ?_ Ds wr hnd hDs ⟨HJ.out, by have := HG.out; exact this.more (by omega)⟩
      · rintro V D hD hx ⟨q1, q2⟩
        exact ⟨hJd _ _ _ _ _ q1 hD hx, q2.kept (grownBy_putObj' V D _) (by simp; omega)⟩
      · rintro V ⟨q1, q2⟩
        exact ⟨_, results_none rfl _ _ _, ⟨_, rfl⟩, q2, .inl ⟨_, rfl, q1⟩⟩
    · have hk8 : (k : Int) < 4 := by omega
      have hk9 : k < 4 := by omega
      have hk0 : (0 : Int) ≤ (k : Int) := by omega
      have hk3 : (k : Int) ≤ 3 := by omega
      have hc := KK.cell
      have z18 := zero18
      have iF := fieldSL
      have iE : ∀ (f g : Nat → Int) (w : World), (Op.equalIn 10000 29 (.agg (mk 16 f)) (.agg (mk 16 g))).run Try.prog w = .ok (sameB f g) w := eqB 9996
      have HV := Lib.hid hV
      have HVS := Lib.hid (slideB_vd hV k)
      clear hc
      gi_wp2_with ((with_reducible show wpListIn _ _ _ _ _ (Oper.mk _ (Op.load 29 _) _ _ _ _ :: _) _ _); refine loadIn (K1) rfl rfl rfl Try.underlying29 rfl sizeB ?_)
      refine ⟨trivial, fun _ => by omega, ?_⟩
      refine (callsIn_wide.2 (slideTo_nat f k _ HV.out hk0 hk3)).mono ?_
      rintro e w3 ⟨rfl, hb⟩
      have hvia : Via K wr w3 := Via.low hb HG.out.map
      have K1 := hvia.blk K1
      have KK := hvia.box KK
      have KN := hvia.box KN
      have HM := Lib.hid (HM.out.kept (hvia.from (n₀ := W.heap.size) (by omega)))
      have HJ := Lib.hid (hJ _ _ _ HJ.out hvia)
      have HG := Lib.hid (HG.out.low hb)
      have hs3 := hvia.1.size
      have K6 := Blk.new w3 16 (slideB f k) 29
      have hvib : Via K w3 (w3.alloc (.cells (mk 16 (slideB f k)) 29)) := Via.low ((Below.refl _ w3).alloc (Nat.le_refl _) _) HG.out.map
      have K1 := hvib.blk K1
      have KK := hvib.box KK
      have KN := hvib.box KN
      have HM := Lib.hid (HM.out.kept (hvib.from (n₀ := W.heap.size) (by omega)))
      have HJ := Lib.hid (hJ _ _ _ HJ.out hvib)
      have HG := Lib.hid (HG.out.alloc (.cells (mk 16 (slideB f k)) 29))
      have hs4 := hvib.1.size
      have HS4 : Hid (W.heap.size ≤ (w3.alloc (.cells (mk 16 (slideB f k)) 29)).heap.size) := by show _ ≤ _; have := hwW.out; omega
      clear hb hvia hvib hwW
      by_cases hmv : isMv f k = true
      · have hq : sameB (slideB f k) f = false := by simpa [isMv] using hmv
        have HMV := Lib.hid hmv
        clear hmv
        gi_wp2_with (first | ((with_reducible show wpListIn _ _ _ _ _ (Oper.mk _ (Op.load 29 _) _ _ _ _ :: _) _ _); refine loadIn (K6) rfl rfl rfl Try.underlying29 rfl sizeB ?_) | ((with_reducible show wpListIn _ _ _ _ _ (Oper.mk _ (Op.load 29 _) _ _ _ _ :: _) _ _); refine loadIn (K1) rfl rfl rfl Try.underlying29 rfl sizeB ?_))
        refine ⟨trivial, fun _ => by omega, ?_⟩
        refine (callsIn_wide.2 (replies_in _ _)).mono ?_
        rintro e w5 ⟨rfl, hw5⟩
        obtain ⟨w4, hw4⟩ : ∃ w4, w4 = w3.alloc (.cells (mk 16 (slideB f k)) 29) := ⟨_, rfl⟩
        rw [← hw4] at hw5 HM HJ HG K1 KK KN HS4 hs4
        have KR := Blk.new w4 16 (slideB f k) 29
        rw [← hw5] at KR
        have hvic : Via K w4 w5 := by rw [hw5]; exact Via.low ((Below.refl _ w4).alloc (Nat.le_refl _) _) HG.out.map
        have K1 := hvic.blk K1
        have KK := hvic.box KK
        have KN := hvic.box KN
        have HM := Lib.hid (HM.out.kept (hvic.from (n₀ := W.heap.size) (by omega)))
        have HJ := Lib.hid (hJ _ _ _ HJ.out hvic)
        have HG : Hid (Good w5 K (m + k * (32 * cst n))) := by show Good _ _ _; rw [hw5]; exact HG.out.alloc _
        have hs5 := hvic.1.size
        have HS5 : Hid (W.heap.size ≤ w5.heap.size) := Nat.le_trans HS4.out hs5
        rw [← hw4]
        clear hw4 hw5 hvic hs3 hs4 K6 HS4
        generalize w4.heap.size = BR at *
        generalize w3.heap.size = B6 at *
        have HLL := Lib.hid hL
        have HHN := Lib.hid hN
        have hwN : IntKind.i64.wrap (N - 1) = N - 1 := IntWalk.i64_in _ (by omega)
        have HYY := Lib.hid hY
        have HJJ := Lib.hid hJ
        have HC := Lib.hid (show cst n = cst n from rfl)
        have HKK : Hid (K < w5.heap.size) := HG.out.lt
        clear hL hN hY hJ HC
        gi_wp2
        refine over_replies (n := nf) (by omega) HVS.out rfl rfl KR
          (fun pre Wx => Via K w5 Wx ∧ Good Wx K (m + k * (32 * cst n) + pre.length * cst n) ∧ ∀ p, p ∈ vals pre → lastF n (plB (slideB f k) p) = true)
          (fun c pre Wx => c = .exit 1 ∧ Via K w5 Wx ∧ Good Wx K (m + k * (32 * cst n) + 32 * cst n) ∧ ∃ p, p ∈ plA (slideB f k) ∧ lastF n (plB (slideB f k) p) = false)
          (OwnFrom.and (ownFrom_via (Nat.le_refl _)) (OwnFrom.and (good_own _ HKK.out) (ownFrom_pure _ _)))
          (fun c => OwnFrom.and (ownFrom_pure _ _) (OwnFrom.and (ownFrom_via (Nat.le_refl _)) (OwnFrom.and (good_own (fun _ => _) HKK.out) (ownFrom_pure _ _))))
          ⟨Via.refl HG.out.map, by simpa using HG.out, fun p hp => by cases hp⟩
          (fun x b c Wx => Blk Wx b 16 (plB (slideB f k) x.1) 29) (fun x b c => Own.from (blk_own _ _ _ _) _) ?A ?assign ?body ?done ?stop
        case assign =>
          rintro l2 pre x Wx C ⟨hv, hg, ha⟩ hC
          have hx := Blk.new Wx 16 (plB (slideB f k) x.1) 29
          have KRx := hv.blk KR
          have HHV := Lib.hid hv
          have HHG := Lib.hid hg
          have HHA := Lib.hid ha
          have HHC := Lib.hid hC
          clear hv hg ha hC
          gi_wp2
          have hq := HHC.out Wx.heap.size 0 (Wx.alloc (.cells (mk 16 (plB (slideB f k) x.1)) 29)) (KeepsFrom.of_grownBy (World.grownBy_alloc Wx _ none) (fun j e => by cases e)) (Keeps2.alloc KRx.lt _)
            ⟨HHV.out.trans (Via.low ((Below.refl _ Wx).alloc (Nat.le_refl _) _) HHG.out.map), HHG.out.alloc _, HHA.out⟩ hx
          clear HHC
          generalize Wx.alloc (.cells (mk 16 (plB (slideB f k) x.1)) 29) = W2 at *
          obtain ⟨cq, hcq⟩ : ∃ cq : Nat, cq = 0 := ⟨_, rfl⟩
          rw [← hcq] at hq
          clear hcq
          generalize Wx.heap.size = bq at *
          exact hq
        case body =>
          rintro l2 pre x b c Wx hl hr ⟨hv, hg, ha⟩ hx hlt
          have KKx := hv.box KK
          have KNx := hv.box KN
          have KRx := hv.blk KR
          have hcK := KKx.cell
          have hcN := KNx.cell
          have hp32 : pre.length + 1 ≤ 32 := by have := empN_le (slideB f k) 16; omega
          have e1 : k * (32 * cst n) ≤ 3 * (32 * cst n) := Nat.mul_le_mul_right _ (by omega)
          have e2 : (pre.length + 1) * cst n ≤ 32 * cst n := Nat.mul_le_mul_right _ hp32
          have e3 : (pre.length + 1) * cst n = pre.length * cst n + cst n := by rw [Nat.add_mul, Nat.one_mul]
          have HLX := HLL.out (plB (slideB f k) x.1) K _ Wx (plB_vd HVS.out x.2) hg (by omega)
          rw [← HHN.out] at HLX
          have HLY := Lib.hid HLX
          have HHV := Lib.hid hv
          have HHG := Lib.hid hg
          have HHA := Lib.hid ha
          have HE := Lib.hid (And.intro e2 e3)
          have HP := Lib.hid hp32
          have HR9 := Lib.hid hr
          clear HLX hv hg ha e1 e2 e3 hp32 hr KKx KNx
          gi_wp2_with ((with_reducible show wpListIn _ _ _ _ _ (Oper.mk _ (Op.load 29 _) _ _ _ _ :: _) _ _); refine loadIn (hx) rfl rfl rfl Try.underlying29 rfl sizeB ?_)
          refine ⟨trivial, fun _ => by omega, ?_⟩
          refine (CallsIn.inRound l2 (callsIn_wide.2 HLY.out)).mono ?_
          rintro e w6 ⟨rfl, hv6, hg6⟩
          have hkf := hv6.from HKK.out
          have hk2 := hv6.keeps2 KRx
          have hvt := HHV.out.trans hv6
          have he := HE.out
          have hGN : Good w6 K (m + k * (32 * cst n) + (pre ++ [x]).length * cst n) := by
            refine hg6.more ?_
            rw [List.length_append]
            show _ ≤ m + k * (32 * cst n) + (pre.length + 1) * cst n
            omega
          have hGX : Good w6 K (m + k * (32 * cst n) + 32 * cst n) := hg6.more (by omega)
          clear he hg6 hcK hcN
          have HQ := Lib.hid (And.intro hkf (And.intro hk2 hvt))
          have HGN := Lib.hid hGN
          have HGX := Lib.hid hGX
          clear hkf hk2 hvt hGN hGX hv6
          cases hq2 : lastF n (plB (slideB f k) x.1) with
          | true =>
            have HA2 : Hid (∀ p, p ∈ vals (pre ++ [x]) → lastF n (plB (slideB f k) p) = true) := by
              intro p hp
              rw [vals_snoc, List.mem_append, List.mem_singleton] at hp
              rcases hp with hp | rfl
              · exact HHA.out p hp
              · exact hq2
            clear hq2
            gi_wp2
            exact ⟨HQ.out.1, HQ.out.2.1, HQ.out.2.2, HGN.out, HA2.out⟩
          | false =>
            have HA2 : Hid (∃ p, p ∈ plA (slideB f k) ∧ lastF n (plB (slideB f k) p) = false) := ⟨x.1, plA_ok.2 x.2, hq2⟩
            clear hq2
            gi_wp2
            exact ⟨HQ.out.1, rfl, HQ.out.2.2, HGX.out, HA2.out⟩
        case done =>
          rintro D ys Wx hD hys ⟨hv, hg, ha⟩ hK
          have hsf : sfF n f k = true := sf_iff.2 ⟨HMV.out, fun p hp => ha p (by unfold vals; rw [hys]; exact hp)⟩
          have hyl : ys.length ≤ 32 := by
            have := plA_le (slideB f k)
            rw [← hys, List.length_map] at this; exact this
          have e2 : ys.length * cst n ≤ 32 * cst n := Nat.mul_le_mul_right _ hyl
          have K1 := hv.blk K1
          have KK := hv.box KK
          have KN := hv.box KN
          have HM2 := Lib.hid (HM.out.cons (hv.from (n₀ := W.heap.size) (by omega)) hD (Nat.le_trans HS5.out hD) hK)
          have HJ2 := Lib.hid (HJJ.out _ _ _ HJ.out hv)
          have HG2 : Hid (Good Wx K (m + (k + 1) * (32 * cst n))) := by show Good _ _ _; exact hg.more (by rw [Nat.add_mul]; omega)
          have HSX : Hid (W.heap.size ≤ Wx.heap.size) := Nat.le_trans HS5.out hv.1.size
          have HSF := Lib.hid hsf
          obtain ⟨fn, tmps, assign, body, hy, hR⟩ := HYY.out (sfL n f k) k Wx HJ2.out (by have := sfL_le n f k; omega)
          have HR := Lib.hid hR
          clear hsf hyl e2 hv hg ha hK hR hys HM HJ HG
          gi_wp2
          refine ⟨fun _ => by omega, ?_⟩
          refine HR.out.mono ?_
          rintro e W3 (⟨rfl, hJ3, hk3⟩ | ⟨rfl, hJx3, hk3⟩)
          · have HJ3 : Hid (J (sfL n f (k + 1)) W3) := by show J _ _; rw [sfL_yes HSF.out]; exact hJ3
            have K1 : Blk W3 B 16 f 29 := hk3.one.trans K1
            have KK : Boxed W3 KB 78 (.map (some K)) := hk3.two.trans KK
            have KN : Boxed W3 NB 3 (.int .i64 N) := hk3.three.trans KN
            have HM3 := Lib.hid (HM2.out.via hk3 hn0)
            have HG3 := Lib.hid (hk3.good _ HG2.out)
            have hs3 := hk3.size
            have HS3 : Hid (W.heap.size ≤ W3.heap.size) := Nat.le_trans HSX.out hs3
            have hn3 : n₀ ≤ W3.heap.size := Nat.le_trans hn0 HS3.out
            clear hJ3 hk3 hy HR HM2 HG2 HJ2 hs3
            gi_wp2
            refine ⟨⟨k + 1, _, _, _, _, _, _, _, _, _, _, _, _, _, _, _, _, _, _, _, _, _, _, _, _, _, _, _, _, _, _, rfl, by omega, HM3, HJ3, HG3, K1, KK, KN, hn3, HS3⟩, ?_⟩
            simp [intOf]
            omega
          · have HJX := Lib.hid hJx3
            have HM3 := Lib.hid (HM2.out.via hk3 hn0)
            have HG3 := Lib.hid (hk3.good _ HG2.out)
            clear hJx3 hk3 hy HR HM2 HG2 HJ2
            gi_wp2
            show LeavesInM _ _ _ _ _ _ _ _ _
            obtain ⟨Ds, hds, hnd, hDs⟩ := HM3.out
            rw [hds]
            refine leaves_marks (n₀ := W.heap.size) (fun V => Jx (sfL n f k ++ [k]) V ∧ Good V K (m + 128 * cst n)) ?_ ?_ Ds W3 hnd hDs ⟨HJX.out, HG3.out.more (by have : (k + 1) * (32 * cst n) ≤ 4 * (32 * cst n) := Nat.mul_le_mul_right _ (by omega); omega)⟩
            · rintro V D hD hx ⟨q1, q2⟩
              exact ⟨hJxd _ _ _ _ _ q1 hD hx, q2.kept (grownBy_putObj' V D _) (by simp; omega)⟩
            · rintro V ⟨q1, q2⟩
              refine ⟨_, results_none rfl _ _ _, ⟨_, rfl⟩, q2, .inr ⟨_, ?_, q1⟩⟩
              rw [← sfL_yes HSF.out]
              obtain ⟨M, hM⟩ := sfL_pre (n := n) (f := f) (k + 1) (3 - k)
              exact ⟨M, by rw [← hM]; congr 1; omega⟩
        case stop =>
          rintro D c pre Wx hD ⟨rfl, hv, hg, p, hp, hlp⟩ hK
          have hsf : sfF n f k = false := by
            cases h : sfF n f k with
            | false => rfl
            | true => rw [(sf_iff.1 h).2 p hp] at hlp; cases hlp
          have K1 := hv.blk K1
          have KK := hv.box KK
          have KN := hv.box KN
          have HM2 := Lib.hid (HM.out.cons (hv.from (n₀ := W.heap.size) (by omega)) hD (Nat.le_trans HS5.out hD) hK)
          have HJ2 : Hid (J (sfL n f (k + 1)) Wx) := by show J _ _; rw [sfL_no hsf]; exact HJJ.out _ _ _ HJ.out hv
          have HG2 : Hid (Good Wx K (m + (k + 1) * (32 * cst n))) := by show Good _ _ _; exact hg.more (by rw [Nat.add_mul]; omega)
          have HSX : Hid (W.heap.size ≤ Wx.heap.size) := Nat.le_trans HS5.out hv.1.size
          have hn3 : n₀ ≤ Wx.heap.size := Nat.le_trans hn0 HSX.out
          clear hsf hv hg hK hp hlp HM HJ HG
          gi_wp2
          refine ⟨⟨k + 1, _, _, _, _, _, _, _, _, _, _, _, _, _, _, _, _, _, _, _, _, _, _, _, _, _, _, _, _, _, _, rfl, by omega, HM2, HJ2, HG2, K1, KK, KN, hn3, HSX⟩, ?_⟩
          simp [intOf]
          omega
      · have hmv : isMv f k = false := by simpa using hmv
        have hq : sameB (slideB f k) f = true := by simpa [isMv] using hmv
        have HJ : Hid (J (sfL n f (k + 1)) (w3.alloc (.cells (mk 16 (slideB f k)) 29))) := by show J _ _; rw [sfL_no (sf_mv hmv)]; exact HJ.out
        clear hmv
        gi_wp2_with (first | ((with_reducible show wpListIn _ _ _ _ _ (Oper.mk _ (Op.load 29 _) _ _ _ _ :: _) _ _); refine loadIn (K6) rfl rfl rfl Try.underlying29 rfl sizeB ?_) | ((with_reducible show wpListIn _ _ _ _ _ (Oper.mk _ (Op.load 29 _) _ _ _ _ :: _) _ _); refine loadIn (K1) rfl rfl rfl Try.underlying29 rfl sizeB ?_))
        refine ⟨⟨k + 1, ds, _, _, _, _, _, _, _, _, _, _, _, _, _, _, _, _, _, _, _, _, _, _, _, _, _, _, _, _, _, rfl, by omega, HM, HJ, Lib.hid (HG.out.more (by rw [Nat.add_mul]; omega)), K1, KK, KN, by omega, HS4⟩, ?_⟩
        simp [intOf]
        omega
end Go.Proofs.Ytlboglcpbbnbcaa
