/-
  Several texts in one:
  A loop over an iterator that changes a map on its way: the map lies ahead of the loop, and neither the loop's own invariant nor its body speaks of it. Nothing is proved here of the program's functions.
  The map that the program keeps of boards and numbers of moves, with whether they last. Nothing is proved here of the program's functions.
  The contracts of the program's safe and of the iterator that it hands back: the directions that are safe, while the map of what is known grows.
  The contract of the program's lasts, by induction on the number of moves.
-/
import Derived.Test.YtlboglcpbbnbcabOverR
import Derived.Test.YtlboglcpbbnbcabMapKit
import Derived.Test.YtlboglcpbbnbcabOver
import Derived.Test.YtlboglcpbbnbcabLeastR
namespace Go.Proofs.Ytlboglcpbbnbcab
open Go.RowKit Go.Shelf Plain
set_option linter.unusedVariables false
set_option linter.unusedSimpArgs false

/-- A world behind another, in which one map may have changed. -/
def Via (K : Nat) (A B : World) : Prop := A.grownBy B (some K) ∧ (∃ es c, A.heap[K]? = some (.map es c)) ∧ ∃ es c, B.heap[K]? = some (.map es c)
theorem Via.trans {K : Nat} {A B C : World} (h : Via K A B) (k : Via K B C) : Via K A C := ⟨h.1.trans k.1, h.2.1, k.2.2⟩
theorem Via.refl {K : Nat} {A : World} (h : ∃ es c, A.heap[K]? = some (.map es c)) : Via K A A := ⟨⟨rfl, rfl, rfl, Nat.le_refl _, fun _ _ _ => rfl⟩, h, h⟩
theorem Via.low {K : Nat} {A B : World} (h : Below A.heap.size A B) (hm : ∃ es c, A.heap[K]? = some (.map es c)) : Via K A B := by
  obtain ⟨es, c, e⟩ := hm
  exact ⟨⟨h.os, h.tape, h.output, h.size, fun k hk _ => h.block k hk⟩, ⟨es, c, e⟩, es, c, (h.block K (Array.getElem?_eq_some_iff.1 e).1).trans e⟩
theorem Via.keeps {K : Nat} {A B : World} (h : Via K A B) {k : Nat} {o : Obj} (hk : A.heap[k]? = some o) (ho : ∀ es c, o ≠ .map es c) : B.heap[k]? = some o := by
  refine (h.1.block k (Array.getElem?_eq_some_iff.1 hk).1 (fun e => ?_)).trans hk
  cases e
  obtain ⟨es, c, q⟩ := h.2.1
  rw [q] at hk
  cases hk
  exact ho es c rfl
/-- What the iterator asks of a round: K's own properties Kp are kept. -/
def SeqVia {α : Type} (n : Nat) (K : Nat) (g : Nat) (lb : Array Value) (encs : α → Array Value) (Kp : World → World → Prop) (T : World → Prop) (S Sp : List α → Prop) (N : Nat) (w : World) : Prop :=
  ∀ (l : Nat) (J Jx : List α → World → Prop) (W : World), Below w.heap.size w W → (∀ s A B, J s A → Via K A B → J s B) → (∀ s A B, Jx s A → Via K A B → Jx s B) →
    (∀ s A D x o, J s A → W.heap.size ≤ D → A.heap[D]? = some (.deferred x) → J s (A.putObj D o)) → (∀ s A D x o, Jx s A → W.heap.size ≤ D → A.heap[D]? = some (.deferred x) → Jx s (A.putObj D o)) →
    (∀ pre x W1, J pre W1 → pre.length < N → YieldAt Fence.wide (n - 1) Try.prog l (encs x) W1 fun e W' =>
      (e = .returned (.bool true) ∧ J (pre ++ [x]) W' ∧ Kp W1 W') ∨ (e = .returned (.bool false) ∧ Jx (pre ++ [x]) W' ∧ Kp W1 W')) →
    J [] W →
    CallsIn Fence.wide n Try.prog g (#[.func (.yield l) #[] #[]] ++ lb) W fun e W' => (∃ v, e = .returned v) ∧ T W' ∧ ((∃ xs, S xs ∧ J xs W') ∨ (∃ pre, Sp pre ∧ Jx pre W'))
/-- What a round of such a loop leaves. -/
def viaPost {α : Type} (B : Nat) (Kp : World → World → Prop) (I : List α → World → Prop) (Ix : Code → List α → World → Prop) (xs : List α) (W : World) : Exit → Act → World → Prop
  | .normal, _, W' => KeepsFrom B W W' ∧ Kp W W' ∧ I xs W'
  | .ret, _, W' => KeepsFrom B W W' ∧ Kp W W' ∧ Ix .ret xs W'
  | .exit id, _, W' => KeepsFrom B W W' ∧ Kp W W' ∧ Ix (.exit id) xs W'
  | .goto t, _, W' => KeepsFrom B W W' ∧ Kp W W' ∧ Ix (.goto t) xs W'
  | .panic _, _, _ => False
  | .outgrown, _, _ => False
theorem over_via {α : Type} {n K : Nat} (h1 : 1 ≤ n) {g : Operand} {ps : Array Tmp} {assign body : Code} {Q : Exit → Act → World → Prop} {a : Act} {w : World}
    {gf : Nat} {lb : Array Value} (hg : a.eval g = .func (.func gf) #[] lb) (eg : ∀ args w, (callFunc gf args).run Try.prog w = .ok (.enter gf args) w)
    {encs : α → Array Value} {Kp : World → World → Prop} {T : World → Prop} {S Sp : List α → Prop} {N : Nat} (hseq : SeqVia (n - 1) K gf lb encs Kp T S Sp N w)
    (hKt : ∀ {A B C : World}, Kp A B → Kp B C → Kp A C) (hKb : ∀ (W : World) (l : Nat) (r : Loop) (o : Obj), w.heap.size ≤ l → W.heap[l]? = some (.loop r) → Kp W (W.putObj l o)) (hps : ∀ x, (encs x).size = ps.size)
    (I : List α → World → Prop) (Ix : Code → List α → World → Prop) (hI : OwnFrom w.heap.size I) (hIx : ∀ c, OwnFrom w.heap.size (Ix c)) (hIv : ∀ s A B, I s A → Via K A B → I s B) (hIxv : ∀ c s A B, Ix c s A → Via K A B → Ix c s B) (h0 : I [] w)
    (Ax : α → Act → World → Prop) (hAx : ∀ x a', OwnFrom w.heap.size (fun (_ : Unit) W => Ax x a' W)) (hT : ∀ W l o, w.heap.size ≤ l → T W → T (W.putObj l o))
    (hassign : ∀ (l : Nat) (pre : List α) (x : α) (W : World) (C : Act → World → Prop), I pre W → (∀ a' W', KeepsFrom w.heap.size W W' → Kp W W' → I pre W' → Ax x a' W' → C a' W') →
      assign.wpIn (Fence.wide.inRound l) (n - 1 - 1) Try.prog (Exit.then C (fun _ _ _ => False)) { tmps := (ps.zip (encs x)).foldl (fun t (p, v) => t.setIfInBounds p v) a.tmps, defers := [] } W)
    (hbody : ∀ (l : Nat) (pre : List α) (x : α) (a' : Act) (W : World), w.heap.size ≤ l → I pre W → Ax x a' W → pre.length < N → body.wpIn (Fence.wide.inRound l) (n - 1 - 1) Try.prog (viaPost w.heap.size Kp I Ix (pre ++ [x]) W) a' W)
    (hdone : ∀ (D : Nat) (xs : List α) (W : World), w.heap.size ≤ D → S xs → I xs W → T W → W.heap[D]? = some (.deferred (some [])) → Q .normal { a with defers := { target := .collected D, args := #[] } :: a.defers } W)
    (hstop : ∀ (D : Nat) (c : Code) (pre : List α) (W : World), w.heap.size ≤ D → Sp pre → Ix c pre W → T W → W.heap[D]? = some (.deferred (some [])) → c.wpIn Fence.wide n Try.prog Q { a with defers := { target := .collected D, args := #[] } :: a.defers } W) :
    (Code.rangeFunc g ps assign body).wpIn Fence.wide n Try.prog Q a w := by
  refine wpIn_rangeFunc ?_
  intro fn hfn
  rw [show Fence.wide.round = none from rfl]
  obtain ⟨R, hR⟩ : ∃ R : LoopState → Option Code → Loop, R = fun st pe => { state := st, pending := pe, fn, tmps := a.tmps, params := ps, assign, body, defers := w.heap.size } := ⟨_, rfl⟩
  obtain ⟨X, hX⟩ : ∃ X, (w.alloc (.deferred (some []))).alloc (.loop (R .ready none)) = X := ⟨_, rfl⟩
  have hl0 : X.heap[w.heap.size + 1]? = some (.loop (R .ready none)) := by
    rw [← hX]; have := World.alloc_heap_new (w.alloc (.deferred (some []))) (.loop (R .ready none)); rwa [World.size_alloc] at this
  have hd0 : X.heap[w.heap.size]? = some (.deferred (some [])) := by
    rw [← hX]; exact (Below.heap_alloc _ _ _ (by simp)).trans (World.alloc_heap_new w _)
  have hi0 : I [] X := by rw [← hX]; exact hI.alloc _ (hI.alloc _ h0)
  have hb0 : Below w.heap.size w X := by rw [← hX]; exact ((Below.refl _ w).alloc (Nat.le_refl _) _).alloc (by simp) _
  refine ⟨w.heap.size + 1, [{ target := .collected w.heap.size, args := #[] }], X, { target := .fn (.func gf) lb, args := #[.func (.yield (w.heap.size + 1)) #[] #[]] }, X, gf,
    #[.func (.yield (w.heap.size + 1)) #[] #[]] ++ lb, X, ?_, ?_, ?_, ?_, fun _ => h1, ?_⟩
  · rw [← hX, hR]; exact run_enterLoop_outer _ _ _ _ _
  · simp only [resolve, hg]; simp [go_sem]
  · intro f' hf'; simp [Target.leads] at hf'; subst hf'; trivial
  · simp [invoke, go_sem, eg]
  have hX2 : X.heap.size = w.heap.size + 2 := by rw [← hX]; simp
  have lm : ∀ (r : Loop) es c, (Obj.loop r) ≠ .map es c := fun r es c e => by cases e
  have dm : ∀ d es c, (Obj.deferred d) ≠ .map es c := fun d es c e => by cases e
  refine (hseq (w.heap.size + 1)
    (fun pre W => I pre W ∧ W.heap[w.heap.size + 1]? = some (.loop (R .ready none)) ∧ W.heap[w.heap.size]? = some (.deferred (some [])))
    (fun pre W => ∃ c, Ix c pre W ∧ W.heap[w.heap.size + 1]? = some (.loop (R .done (some c))) ∧ W.heap[w.heap.size]? = some (.deferred (some [])))
    X hb0 (fun s A B h v => ⟨hIv s A B h.1 v, v.keeps h.2.1 (lm _), v.keeps h.2.2 (dm _)⟩)
    (fun s A B h v => by obtain ⟨c, p, q, r⟩ := h; exact ⟨c, hIxv c s A B p v, v.keeps q (lm _), v.keeps r (dm _)⟩)
    (fun s A D x o h hD hx => ⟨hI.putObj _ h.1 (by have := hb0.size; omega) hx rfl, (World.putObj_heap_other (fun e => by omega)).trans h.2.1, (World.putObj_heap_other (fun e => by omega)).trans h.2.2⟩)
    (fun s A D x o h hD hx => by obtain ⟨c, p, q, r⟩ := h; exact ⟨c, (hIx c).putObj _ p (by have := hb0.size; omega) hx rfl, (World.putObj_heap_other (fun e => by omega)).trans q, (World.putObj_heap_other (fun e => by omega)).trans r⟩) ?_ ⟨hi0, hl0, hd0⟩).mono ?_
  · rintro pre x W ⟨hi, hl, hd⟩ hlen
    have hy := run_yield (P := Try.prog) (args := encs x) hl (by rw [hR]; exact hps x)
    rw [hR] at hy
    refine ⟨fn, _, assign, body, hy, roundIn_of_wpIn hfn (hassign _ pre x W _ hi ?_)⟩
    clear hy
    intro a' Y hkf hkp hiY hax
    have hlY := hkf.same _ _ (by omega) hl rfl
    have hdY := hkf.same _ _ (Nat.le_refl _) hd rfl
    have hsY : w.heap.size + 1 < Y.heap.size := (Array.getElem?_eq_some_iff.1 hlY).1
    refine ⟨_, run_beginRound hlY (by rw [hR]), ?_⟩
    obtain ⟨Z, hZ⟩ : ∃ Z, Z = Y.putObj (w.heap.size + 1) (.loop { R .ready none with state := .busy }) := ⟨_, rfl⟩
    rw [← hZ]
    have hlZ : Z.heap[w.heap.size + 1]? = some (.loop { R .ready none with state := .busy }) := by rw [hZ]; exact World.putObj_heap_same hsY
    have hdZ : Z.heap[w.heap.size]? = some (.deferred (some [])) := by rw [hZ]; exact (World.putObj_heap_other (by omega)).trans hdY
    have hkZ : Kp W Z := by rw [hZ]; exact hKt hkp (hKb _ _ _ _ (by omega) hlY)
    have hiZ : I pre Z := by rw [hZ]; exact hI.putObj _ hiY (by omega) hlY rfl
    have haZ : Ax x a' Z := by rw [hZ]; exact (hAx x a').putObj (s := ()) _ hax (by omega) hlY rfl
    refine wpIn_mono (hbody _ pre x a' Z (by omega) hiZ haZ hlen) ?_
    have fin : ∀ (jump : Option Code) (V : World), KeepsFrom w.heap.size Z V →
        (Instr.endRound (w.heap.size + 1) jump).run Try.prog V = .ok (.bool jump.isNone) (V.putObj (w.heap.size + 1) (.loop (R (if jump.isNone then .ready else .done) jump))) ∧
        V.heap[w.heap.size + 1]? = some (.loop { R .ready none with state := .busy }) ∧
        (V.putObj (w.heap.size + 1) (.loop (R (if jump.isNone then .ready else .done) jump))).heap[w.heap.size + 1]? = some (.loop (R (if jump.isNone then .ready else .done) jump)) ∧
        (V.putObj (w.heap.size + 1) (.loop (R (if jump.isNone then .ready else .done) jump))).heap[w.heap.size]? = some (.deferred (some [])) := fun jump V hk => by
      have hlV := hk.same _ _ (by omega) hlZ rfl
      have := run_endRound (P := Try.prog) jump hlV
      rw [hR] at this ⊢
      exact ⟨this, by rw [hR] at hlV; exact hlV, World.putObj_heap_same (Array.getElem?_eq_some_iff.1 hlV).1, (World.putObj_heap_other (by omega)).trans (hk.same _ _ (Nat.le_refl _) hdZ rfl)⟩
    have out : ∀ (c : Code) (V : World), KeepsFrom w.heap.size Z V → Kp Z V → Ix c (pre ++ [x]) V → ∃ e V', (Instr.endRound (w.heap.size + 1) (some c)).run Try.prog V = .ok e V' ∧
        e = .bool false ∧ (∃ c, Ix c (pre ++ [x]) V' ∧ V'.heap[w.heap.size + 1]? = some (.loop (R .done (some c))) ∧ V'.heap[w.heap.size]? = some (.deferred (some []))) ∧ Kp W V' := fun c V hk hkp2 hix => by
      obtain ⟨hr, q1, q2, q3⟩ := fin (some c) V hk
      exact ⟨_, _, hr, rfl, ⟨c, (hIx _).putObj _ hix (by omega) q1 rfl, q2, q3⟩, hKt hkZ (hKt hkp2 (hKb _ _ _ _ (by omega) q1))⟩
    rintro e a3 V hp
    cases e with
    | normal =>
      obtain ⟨hk3, hkp3, hi3⟩ := hp
      obtain ⟨hr, q1, q2, q3⟩ := fin none V hk3
      exact ⟨_, _, hr, .inl ⟨rfl, ⟨hI.putObj _ hi3 (by omega) q1 rfl, q2, q3⟩, hKt hkZ (hKt hkp3 (hKb _ _ _ _ (by omega) q1))⟩⟩
    | ret =>
      obtain ⟨e, V', hr, rfl, p, q⟩ := out .ret V hp.1 hp.2.1 hp.2.2
      exact ⟨_, _, hr, .inr ⟨rfl, p, q⟩⟩
    | exit id =>
      obtain ⟨e, V', hr, rfl, p, q⟩ := out (.exit id) V hp.1 hp.2.1 hp.2.2
      exact ⟨_, _, hr, .inr ⟨rfl, p, q⟩⟩
    | goto t =>
      obtain ⟨e, V', hr, rfl, p, q⟩ := out (.goto t) V hp.1 hp.2.1 hp.2.2
      exact ⟨_, _, hr, .inr ⟨rfl, p, q⟩⟩
    | panic ch => exact hp.elim
    | outgrown => exact hp.elim
  · rintro e V ⟨⟨v, rfl⟩, ht, (⟨xs, hS, hi, hl, hk⟩ | ⟨pre, hSp, c, hi, hl, hk⟩)⟩
    · exact ⟨none, _, by have := run_endLoop (P := Try.prog) hl (by rw [hR]; simp); rw [hR] at this; exact this, hdone _ xs _ (Nat.le_refl _) hS (hI.putObj _ hi (by omega) hl rfl) (hT _ _ _ (by omega) ht) ((World.putObj_heap_other (by omega)).trans hk)⟩
    · exact ⟨some c, _, by have := run_endLoop (P := Try.prog) hl (by rw [hR]; simp); rw [hR] at this; exact this, hstop _ c pre _ (Nat.le_refl _) hSp ((hIx c).putObj _ hi (by omega) hl rfl) (hT _ _ _ (by omega) ht) ((World.putObj_heap_other (by omega)).trans hk)⟩
/-- What is said of the world from a fixed one on abides what turns no block of that one. -/
theorem ownFrom_via {β : Type} {K B : Nat} {Wb : World} (hB : Wb.heap.size ≤ B) : OwnFrom B (fun (_ : β) W => Via K Wb W) := fun _ X Y row hs hg hr => by
  obtain ⟨h1, ⟨es, c, q⟩, es2, c2, q2⟩ := hs
  have hK := (Array.getElem?_eq_some_iff.1 q).1
  have hne : ∀ k, k < Wb.heap.size → some k ≠ row := fun k hk e => by have := (hr k e.symm).1; omega
  refine ⟨⟨hg.os.trans h1.os, hg.tape.trans h1.tape, hg.output.trans h1.output, Nat.le_trans h1.size hg.size, fun k hk hkr => ?_⟩, ⟨es, c, q⟩, es2, c2, (hg.block K (Array.getElem?_eq_some_iff.1 q2).1 (hne K hK)).trans q2⟩
  exact (hg.block k (Nat.lt_of_lt_of_le hk h1.size) (hne k hk)).trans (h1.block k hk hkr)
theorem Via.from {K n₀ : Nat} {A B : World} (h : Via K A B) (hK : K < n₀) : KeepsFrom n₀ A B := KeepsFrom.of_grownBy h.1 (fun j e => by cases e; exact hK)
theorem Via.blk {K b n : Nat} {f : Nat → Int} {t : TypeId} {A B : World} (h : Via K A B) (k : Blk A b n f t) : Blk B b n f t := h.keeps k (fun es c e => by cases e)
theorem Via.box {K b : Nat} {v : Value} {t : TypeId} {A B : World} (h : Via K A B) (k : Boxed A b t v) : Boxed B b t v := h.keeps k (fun es c e => by cases e)
theorem Via.keeps2 {K b n : Nat} {f : Nat → Int} {t : TypeId} {A B : World} (h : Via K A B) (k : Blk A b n f t) : Keeps2 b A B := Keeps2.grown k.lt h.1 fun r e => by
  cases e
  obtain ⟨es, c, q⟩ := h.2.1
  refine ⟨fun e => ?_, fun cs z q2 => ?_⟩
  · subst e; rw [show A.heap[K]? = _ from k] at q; cases q
  · rw [q] at q2; cases q2
end Go.Proofs.Ytlboglcpbbnbcab
namespace Go.Proofs.Ytlboglcpbbnbcab
open Go.RowKit Plain
open Go.Maps (Keyed)
set_option linter.unusedVariables false
set_option linter.unusedSimpArgs false

theorem slideB_like {f g : Nat → Int} (h : ∀ j, j < 16 → f j = g j) (d : Nat) : ∀ j, j < 16 → slideB f d j = slideB g d j := fun j hj => by
  unfold slideB
  rw [slid_congr (f := lineF f d (lineOf d j)) (g := lineF g d (lineOf d j)) 4 fun k hk => h _ (pos_lt (lineOf_lt hj) hk)]
theorem isMv_like {f g : Nat → Int} (h : ∀ j, j < 16 → f j = g j) (d : Nat) : isMv f d = isMv g d := by
  unfold isMv
  congr 1
  rw [Bool.eq_iff_iff, sameB_iff, sameB_iff]
  constructor
  · intro q j hj; rw [← slideB_like h d j hj, ← h j hj]; exact q j hj
  · intro q j hj; rw [slideB_like h d j hj, h j hj]; exact q j hj
theorem last_like : ∀ (n : Nat) {f g : Nat → Int}, (∀ j, j < 16 → f j = g j) → lastF n f = true → lastF n g = true
  | 0, _, _, _, _ => rfl
  | n + 1, f, g, h, q => by
    obtain ⟨d, hd, hs⟩ := (last_iff n f).1 q
    obtain ⟨h1, h2⟩ := sf_iff.1 hs
    refine (last_iff n g).2 ⟨d, hd, sf_iff.2 ⟨by rw [← isMv_like h d]; exact h1, fun p hp => ?_⟩⟩
    have hq := plA_ok.1 hp
    have hl := slideB_like h d
    have hp2 : p ∈ plA (slideB f d) := plA_ok.2 ⟨hq.1, by rw [hl _ hq.1]; exact hq.2.1, hq.2.2⟩
    refine last_like n (fun j hj => ?_) (h2 p hp2)
    unfold plB upd
    split
    · rfl
    · exact hl j hj
theorem lastF_like (n : Nat) {f g : Nat → Int} (h : ∀ j, j < 16 → f j = g j) : lastF n f = lastF n g := by
  rw [Bool.eq_iff_iff]
  exact ⟨last_like n h, last_like n fun j hj => (h j hj).symm⟩
/-- A board and a number of moves, in seventeen cells. -/
def okF (f : Nat → Int) (n : Nat) : Nat → Int := fun j => if j < 16 then f j else (n : Int)
theorem okF_like {f g : Nat → Int} {n m : Nat} (h : mk 17 (okF f n) = mk 17 (okF g m)) : lastF n f = lastF m g := by
  have e := mk_inj h
  have h1 : ∀ j, j < 16 → f j = g j := fun j hj => by have := e j (by omega); unfold okF at this; rwa [if_pos hj, if_pos hj] at this
  have h2 := e 16 (by omega)
  unfold okF at h2
  rw [if_neg (by omega), if_neg (by omega)] at h2
  have : n = m := by omega
  subst this
  exact lastF_like n h1
theorem keyLits_pair {P : Program} {d n m N : Nat} {t g e : TypeId} {f : Nat → Int} {f0 f1 : Field} (ht : P.underlying t = some (.struct #[f0, f1])) (o0 : f0.offset = 0) (o1 : f1.offset = n) (t0 : f0.type = g) (t1 : f1.type = e) (n0 : f0.name ≠ "_") (n1 : f1.name ≠ "_")
    (hN : N = n + m) (ct : P.cellsOf t = N) (cg : P.cellsOf g = n) (ce : P.cellsOf e = m) (h0 : ∃ ls, P.keyLits d g (mk n f).toList = some ls) (h1 : ∃ ls, P.keyLits d e (mk m fun i => f (n + i)).toList = some ls) : ∃ ls, P.keyLits (d + 1) t (mk N f).toList = some ls := by
  obtain ⟨l0, q0⟩ := h0
  obtain ⟨l1, q1⟩ := h1
  subst hN
  refine ⟨l0 ++ l1, ?_⟩
  unfold Program.keyLits
  simp only [ht]
  have e0 : List.take (P.cellsOf g) (List.drop f0.offset (mk (n + m) f).toList) = (mk n f).toList := by
    rw [o0, cg, take_mk (by omega)]; simp only [Nat.zero_add]
  have e1 : List.take (P.cellsOf e) (List.drop f1.offset (mk (n + m) f).toList) = (mk m fun i => f (n + i)).toList := by
    rw [o1, ce, take_mk (by omega)]
  rw [if_pos ⟨by rw [mk_len, ct], by simp [n0, n1]⟩]
  simp only [List.mapM_cons, List.mapM_nil, t0, t1, e0, e1, q0, q1]
  simp
theorem keyO {f : Nat → Int} (hf : Wf 17 f) : ∃ kl, keyOf Try.prog 171 (.agg (mk 17 f)) = some kl := by
  obtain ⟨d, hd⟩ : ∃ d, Try.prog.types.size + 1 = d + 5 := by
    have h : decide (4 ≤ Try.prog.types.size) = true := by kernel_rfl
    have h2 := of_decide_eq_true h
    exact ⟨Try.prog.types.size - 4, by omega⟩
  refine key_struct Try.underlying171 (by kernel_rfl) (by kernel_rfl) ?_
  rw [hd]
  refine keyLits_pair (d := d + 4) (g := 29) (e := 3) (n := 16) (m := 1) Try.underlying171 rfl rfl rfl rfl (by decide) (by decide) rfl (by kernel_rfl) (by kernel_rfl) (by kernel_rfl) ?_ ?_
  · refine keyLits_struct (d := d + 3) (g := 23) Try.underlying29 rfl rfl (by decide) (by kernel_rfl) (by kernel_rfl) ?_
    exact keyLits_rows (n := 4) (m := 4) Try.underlying23 Try.underlying22 Try.underlying3 (by kernel_rfl) (by kernel_rfl) (by kernel_rfl) (fun i hi => hf i (by omega))
  · exact ⟨_, keyLits_int (d := d + 3) Try.underlying3 (hf 16 (by omega))⟩
theorem keyedO : Keyed Try.prog 171 := Keyed.of_law (deep_law_laid laidOut (m := 6) (by decide) (of_decide_eq_true (by kernel_rfl)) (by kernel_rfl) (by kernel_rfl))
theorem lit_wf (x : Int) (h0 : 0 ≤ x) (h1 : x ≤ 1000) : (Lit.int .i64 x).wf = true := WalkArith.wf_i64 (by omega)
theorem okF_wf {f : Nat → Int} {n : Nat} (hV : Vd f) (hn : n ≤ 3) : Wf 17 (okF f n) := fun i hi => by
  unfold okF
  split
  · rename_i h
    have := hV i h
    exact lit_wf _ (by omega) (by omega)
  · exact lit_wf _ (by omega) (by omega)
/-- The block K is a map of at most m entries, and each tells whether its board lasts its number of moves. -/
def Good (w : World) (K m : Nat) : Prop := ∃ D : DataW Unit, w.ownsMap Try.prog 171 (plainElem Try.prog 4) K m D ∧
  ∀ F kl, keyOf Try.prog 171 (.agg (mk 17 F)) = some kl → (Maps.has D kl = true → ∀ f n, mk 17 F = mk 17 (okF f n) → D.atKey kl (.lit (.bool false)) = .lit (.bool (lastF n f))) ∧ (Maps.has D kl = false → D.atKey kl (.lit (.bool false)) = .lit (.bool false))
theorem Good.made (w : World) : Good (w.alloc (.map #[] 0)) w.heap.size 0 :=
  ⟨.map [], World.ownsMap_made _ _ _ _, fun F kl _ => ⟨fun h => by simp [Maps.has] at h, fun _ => by simp [DataW.atKey]⟩⟩
theorem Good.kept {w w' : World} {K m : Nat} {row : Option Nat} (h : Good w K m) (hg : w.grownBy w' row) (hne : some K ≠ row) : Good w' K m := by
  obtain ⟨D, h1, h2⟩ := h; exact ⟨D, h1.kept hg hne, h2⟩
theorem Good.lt {w : World} {K m : Nat} (h : Good w K m) : K < w.heap.size := by obtain ⟨D, h1, _⟩ := h; exact h1.lt
theorem Good.low {w w' : World} {K m : Nat} (h : Good w K m) (hb : Below w.heap.size w w') : Good w' K m := h.kept (below_grown hb) (by simp)
theorem Good.alloc {w : World} {K m : Nat} (h : Good w K m) (o : Obj) : Good (w.alloc o) K m := by obtain ⟨D, h1, h2⟩ := h; exact ⟨D, h1.alloc o, h2⟩
theorem Good.map {w : World} {K m : Nat} (h : Good w K m) : ∃ es c, w.heap[K]? = some (.map es c) := by
  obtain ⟨D, ⟨es, c, hh, _⟩, _⟩ := h; exact ⟨es, c, hh⟩
theorem Good.more {w : World} {K m m' : Nat} (h : Good w K m) (hm : m ≤ m') : Good w K m' := by
  obtain ⟨D, h1, h2⟩ := h; exact ⟨D, h1.mono hm, h2⟩
theorem Good.look {w : World} {K m : Nat} (h : Good w K m) (hz : (zeroValue 4).run Try.prog w = .ok (.bool false) w) {f : Nat → Int} {n : Nat} (hV : Vd f) (hn : n ≤ 3) :
    ∃ c s : Bool, (Instr.lookup 122 (.map (some K)) (.agg (mk 17 (okF f n))) true).run Try.prog w = .ok (.tuple #[.bool c, .bool s]) w ∧ (s = true → c = lastF n f) ∧ (s = false → c = false) := by
  obtain ⟨D, h1, h3⟩ := h
  obtain ⟨kl, hkl⟩ := keyO (okF_wf hV hn)
  obtain ⟨v, ps, hrun, hv⟩ := h1.look_ok keyedO Try.underlying122 hz (plainElem_bool Try.underlying4 false) hkl
  obtain ⟨c, rfl, hc⟩ := plainElem_bool_inv Try.underlying4 hv
  refine ⟨c, _, hrun, fun hs => ?_, fun hs => ?_⟩
  · rw [(h3 _ kl hkl).1 hs f n rfl] at hc
    simp only [Prod.mk.injEq, DataW.lit.injEq, Lit.bool.injEq] at hc
    exact hc.1.symm
  · rw [(h3 _ kl hkl).2 hs] at hc
    simp only [Prod.mk.injEq, DataW.lit.injEq, Lit.bool.injEq] at hc
    exact hc.1.symm
theorem Good.put {w : World} {K m : Nat} (h : Good w K m) (hm : m < maxLen) {f : Nat → Int} {n : Nat} (hV : Vd f) (hn : n ≤ 3) :
    ∃ w', (Instr.mapUpdate 122 (.map (some K)) (.agg (mk 17 (okF f n))) (.bool (lastF n f))).run Try.prog w = .ok () w' ∧ Good w' K (m + 1) ∧ w.grownBy w' (some K) := by
  obtain ⟨D, h1, h3⟩ := h
  obtain ⟨kl, hkl⟩ := keyO (okF_wf hV hn)
  obtain ⟨w', hrun, ho, hg⟩ := h1.update keyedO Try.underlying122 hm hkl (plainElem_bool Try.underlying4 (lastF n f))
  refine ⟨w', hrun, ⟨_, ho, ?_⟩, hg⟩
  intro F gl hgl
  by_cases e : gl = kl
  · subst e
    have hag := keyedO.inj hgl hkl
    simp only [Value.agg.injEq] at hag
    rw [Maps.has_put_same h1.isMap (keyedO.key hkl), Maps.atKey_put_same h1.isMap (keyedO.key hkl)]
    refine ⟨fun _ f' n' e' => ?_, fun q => by cases q⟩
    rw [okF_like (e'.symm.trans hag)]
  · rw [Maps.has_put_other e, Maps.atKey_put_other e]
    exact h3 F gl hgl
end Go.Proofs.Ytlboglcpbbnbcab
namespace Go.Proofs.Ytlboglcpbbnbcab
open Go.RowKit Go.Shelf Plain
attribute [local go_sem] store_new Oper.semAt_some
set_option linter.unusedVariables false
set_option linter.unusedSimpArgs false

theorem fieldSL (f : Nat → Int) (d : Nat) (w : World) : (Instr.field 103 (.agg (mk 18 (slideV f d))) 0).run Try.prog w = .ok (.agg (mk 16 (slideB f d))) w := by
  have h : mk 16 (slideB f d) = mk 16 (slideV f d) := mk_congr fun j hj => by unfold slideV; rw [if_pos hj]
  rw [h]
  exact fieldS0 _ w
theorem stepR_scope {P : Program} {b : Frame} {a : Act} {k : List Item} {cs : List Frame} {w : World} {c : Code} : step P (lone (b.atR a (.code (.scope c) :: k)) cs w) = .next (lone (b.atR a (.code c :: .inScope c :: k)) cs w) :=
  step_lone_go (by simp [stepG, stepG.exec, Frame.atR])
theorem stepR_inScope {P : Program} {b : Frame} {a : Act} {k : List Item} {cs : List Frame} {w : World} {c : Code} : step P (lone (b.atR a (.inScope c :: k)) cs w) = .next (lone (b.atR a k) cs w) :=
  step_lone_go (by simp [stepG, stepG.exec, Frame.atR])
theorem wpIn_scope {F : Fence} {n : Nat} {P : Program} {Q : Exit → Act → World → Prop} {a : Act} {w : World} {c : Code} (h : c.wpIn F n P (Exit.noGoto Q) a w) : (Code.scope c).wpIn F n P Q a w := by
  intro b k cs hro hb hr
  have h0 : (lone (b.atR a (.code (.scope c) :: k)) cs w).fenced P F := fenced_calm hb hr rfl
  obtain ⟨e, a₁, w₁, hq, harr⟩ := h b (.inScope c :: k) cs hro hb hr
  cases e with
  | normal => exact ⟨.normal, a₁, w₁, hq, .head h0 stepR_scope (StepsIn.trans harr (.one (fenced_calm hb hr rfl) stepR_inScope))⟩
  | exit id =>
    have hx : exitTo id (.inScope c :: k) = exitTo id k := by simp [exitTo]
    exact ⟨_, a₁, w₁, hq, fun k' hk => .head h0 stepR_scope (harr.1 k' (by rw [hx]; exact hk)),
      fun hr' hk => let ⟨k₁, h1, h2⟩ := harr.2 hr' (by rw [hx]; exact hk); ⟨k₁, h1, .head h0 stepR_scope h2⟩⟩
  | goto l => exact hq.elim
  | ret => exact ⟨_, a₁, w₁, hq, .of_steps (.one h0 stepR_scope) harr⟩
  | panic ch => exact ⟨_, a₁, w₁, hq, .of_steps (.one h0 stepR_scope) harr⟩
  | outgrown => exact ⟨_, a₁, w₁, hq, .of_steps (.one h0 stepR_scope) harr⟩
theorem safe_in (K : Nat) (f : Nat → Int) (N : Int) (w : World) :
    Calls Try.prog 110 #[.map (some K), .agg (mk 16 f), .int .i64 N] w fun e w' => e = .returned (.func (.func 151) #[] #[.pointer (some ⟨w.heap.size + 1, 0, none⟩), .pointer (some ⟨w.heap.size, 0, none⟩), .pointer (some ⟨w.heap.size + 1 + 1, 0, none⟩)]) ∧
      w' = ((w.alloc (.cells #[.map (some K)] 122)).alloc (.cells (mk 16 f) 29)).alloc (.cells #[.int .i64 N] 3) := by
  go_enter Try.func110, Try.ntmps110
  go_wp2
  go_ret
  exact ⟨rfl, rfl⟩
theorem safe_enters : ∀ args w, (callFunc 151 args).run Try.prog w = .ok (.enter 151 args) w := Go.Proofs.enters_of Try.func151 (by kernel_rfl) rfl
/-- How many entries a call may lay. -/
def cst : Nat → Nat
  | 0 => 0
  | n + 1 => 1 + 128 * cst n
/-- A board lasts n moves: what lasts returns, and what it does to the map. -/
def LSn (n : Nat) : Prop := ∀ (f : Nat → Int) (K m : Nat) (w : World), Vd f → Good w K m → m + cst n ≤ 60000 →
  Calls Try.prog 107 #[.map (some K), .agg (mk 16 f), .int .i64 (n : Int)] w fun e w' => e = .returned (.bool (lastF n f)) ∧ Via K w w' ∧ Good w' K (m + cst n)
/-- What a round must keep for the iterator. -/
structure KpS (B KB NB K n₀ : Nat) (W W' : World) : Prop where
  size : W.heap.size ≤ W'.heap.size
  one : W'.heap[B]? = W.heap[B]?
  two : W'.heap[KB]? = W.heap[KB]?
  three : W'.heap[NB]? = W.heap[NB]?
  good : ∀ m, Good W K m → Good W' K m
  marks : ∀ D x, n₀ ≤ D → W.heap[D]? = some (.deferred x) → W'.heap[D]? = some (.deferred x)
theorem KpS.trans {B KB NB K n₀ : Nat} {X Y Z : World} (h : KpS B KB NB K n₀ X Y) (k : KpS B KB NB K n₀ Y Z) : KpS B KB NB K n₀ X Z :=
  ⟨Nat.le_trans h.size k.size, k.one.trans h.one, k.two.trans h.two, k.three.trans h.three, fun m g => k.good m (h.good m g), fun D x hD hx => k.marks D x hD (h.marks D x hD hx)⟩
theorem KpS.book {B KB NB K n₀ : Nat} (h1 : B < n₀) (h2 : KB < n₀) (h3 : NB < n₀) (h4 : K < n₀) (W : World) (l : Nat) (r : Loop) (o : Obj) (hl : n₀ ≤ l) (hr : W.heap[l]? = some (.loop r)) : KpS B KB NB K n₀ W (W.putObj l o) :=
  ⟨(grownBy_putObj' W l o).size, World.putObj_heap_other (by omega), World.putObj_heap_other (by omega), World.putObj_heap_other (by omega), fun m g => g.kept (grownBy_putObj' W l o) (by simp; omega),
   fun D x hD hx => (World.putObj_heap_other (fun e => by subst e; rw [hr] at hx; cases hx)).trans hx⟩
theorem good_own {β : Type} {K B : Nat} (F : β → Nat) (hK : K < B) : OwnFrom B (fun s W => Good W K (F s)) := fun s X Y row hs hg hr =>
  hs.kept hg (fun e => by have := (hr K e.symm).1; omega)
theorem sfL_pre {n : Nat} {f : Nat → Int} (j : Nat) : ∀ i, ∃ M, sfL n f (j + i) = sfL n f j ++ M
  | 0 => ⟨[], by simp⟩
  | i + 1 => by
    obtain ⟨M, h⟩ := sfL_pre (n := n) (f := f) j i
    cases hs : sfF n f (j + i) with
    | true => exact ⟨M ++ [j + i], by rw [← Nat.add_assoc, sfL_yes hs, h, List.append_assoc]⟩
    | false => exact ⟨M, by rw [← Nat.add_assoc, sfL_no hs, h]⟩
theorem Marks.via {B KB NB K n₀ : Nat} {w w' : World} {b₀ : Nat} {ds : List Deferred} (h : Marks w b₀ ds) (hk : KpS B KB NB K n₀ w w') (hb : n₀ ≤ b₀) : Marks w' b₀ ds := by
  obtain ⟨Ds, h0, h1, h2⟩ := h
  exact ⟨Ds, h0, h1, fun D hD => ⟨(h2 D hD).1, hk.marks D _ (Nat.le_trans hb (h2 D hD).1) (h2 D hD).2⟩⟩
set_option maxRecDepth 100000 in
set_option maxHeartbeats 4000000 in
theorem safe1_in (nf l B KB NB K m n n₀ : Nat) (N : Int) (f : Nat → Int) (hnf : 3 ≤ nf) (hV : Vd f) (hL : LSn n) (hN : N - 1 = (n : Int)) (hn : n ≤ 2) (hm : m + 128 * cst n ≤ 60000) (J Jx : List Nat → World → Prop)
    (W : World) (hn0 : n₀ ≤ W.heap.size) (hBl : B < n₀) (hKl : KB < n₀) (hNl : NB < n₀) (hKK : K < n₀)
    (hJ : ∀ s A X, J s A → Via K A X → J s X) (hJx : ∀ s A X, Jx s A → Via K A X → Jx s X)
    (hJd : ∀ s A D x o, J s A → W.heap.size ≤ D → A.heap[D]? = some (.deferred x) → J s (A.putObj D o)) (hJxd : ∀ s A D x o, Jx s A → W.heap.size ≤ D → A.heap[D]? = some (.deferred x) → Jx s (A.putObj D o))
    (hY : ∀ pre x W1, J pre W1 → pre.length < 4 → YieldAt Fence.wide (nf - 1) Try.prog l #[.int .i64 ((x : Nat) : Int)] W1 fun e W' =>
      (e = .returned (.bool true) ∧ J (pre ++ [x]) W' ∧ KpS B KB NB K n₀ W1 W') ∨ (e = .returned (.bool false) ∧ Jx (pre ++ [x]) W' ∧ KpS B KB NB K n₀ W1 W'))
    (hB : Blk W B 16 f 29) (hKB : Boxed W KB 122 (.map (some K))) (hNB : Boxed W NB 3 (.int .i64 N)) (hG : Good W K m) (h0 : J [] W) :
    CallsIn Fence.wide nf Try.prog 151 #[.func (.yield l) #[] #[], .pointer (some ⟨B, 0, none⟩), .pointer (some ⟨KB, 0, none⟩), .pointer (some ⟨NB, 0, none⟩)] W fun e W' => (∃ v, e = .returned v) ∧ Good W' K (m + 128 * cst n) ∧
      ((∃ xs, xs = sfL n f 4 ∧ J xs W') ∨ (∃ pre, (∃ M, sfL n f 4 = pre ++ M) ∧ Jx pre W')) := by
  have z16 := zero16
  refine callsIn_of_wp_marks Try.func151 rfl trivial ?_ rfl
  simp only [Try.ntmps151, List.size_toArray, List.length_cons, List.length_nil, Nat.reduceAdd, Nat.reduceSub, Array.replicate_succ, Array.replicate_zero, List.push_toArray, List.append_toArray, List.nil_append, List.cons_append]
  gi_wp2
  refine wpIn_scope ?_
  gi_wp2
  refine wpIn_label ?_
  simp only [Exit.then]
  gi_wp2
  refine wpIn_loop (fun a wr => ∃ (k : Nat) (ds : List Deferred) (u4 u5 u6 u7 u8 u10 u11 u12 u13 u14 u15 u16 u17 u18 u19 u20 u21 u22 u23 u24 u25 u26 u27 u28 u29 u30 u31 u32 u33 : Value), a = { tmps := #[.func (.yield l) #[] #[], .pointer (some ⟨B, 0, none⟩), .pointer (some ⟨KB, 0, none⟩), .pointer (some ⟨NB, 0, none⟩), u4, u5, u6, u7, u8, .int .i64 (k : Int), u10, u11, u12, u13, u14, u15, u16, u17, u18, u19, u20, u21, u22, u23, u24, u25, u26, u27, u28, u29, u30, u31, u32, u33], defers := ds } ∧ k ≤ 4 ∧ Hid (Marks wr W.heap.size ds) ∧ Hid (J (sfL n f k) wr) ∧ Hid (Good wr K (m + k * (32 * cst n))) ∧ Blk wr B 16 f 29 ∧ Boxed wr KB 122 (.map (some K)) ∧ Boxed wr NB 3 (.int .i64 N) ∧ n₀ ≤ wr.heap.size ∧ Hid (W.heap.size ≤ wr.heap.size)) (fun a _ => 4 - (intOf (a.tmps.getD 9 undef)).toNat) ?atStart ?round
  case atStart =>
    refine ⟨0, [], _, _, _, _, _, _, _, _, _, _, _, _, _, _, _, _, _, _, _, _, _, _, _, _, _, _, _, _, _, rfl, by omega, Marks.nil _ _, h0, by show Good _ _ _; rw [Nat.zero_mul]; exact hG, hB, hKB, hNB, hn0, Nat.le_refl _⟩
  case round =>
    rintro a wr ⟨k, ds, u4, u5, u6, u7, u8, u10, u11, u12, u13, u14, u15, u16, u17, u18, u19, u20, u21, u22, u23, u24, u25, u26, u27, u28, u29, u30, u31, u32, u33, rfl, hk, HM, HJ, HG, K1, KK, KN, hw0, hwW⟩
    by_cases hk4 : k = 4
    · subst hk4
      gi_wp2
      show LeavesInM _ _ _ _ _ _ _ _ _
      obtain ⟨Ds, rfl, hnd, hDs⟩ := HM.out
      refine leaves_marks (n₀ := W.heap.size) (fun V => J (sfL n f 4) V ∧ Good V K (m + 128 * cst n)) ?_ ?_ Ds wr hnd hDs ⟨HJ.out, by have := HG.out; exact this.more (by omega)⟩
      · rintro V D hD hx ⟨q1, q2⟩
        exact ⟨hJd _ _ _ _ _ q1 hD hx, q2.kept (grownBy_putObj' V D _) (by simp; omega)⟩
      · rintro V ⟨q1, q2⟩
        exact ⟨_, results_none rfl _ _ _, ⟨_, rfl⟩, q2, .inl ⟨_, rfl, q1⟩⟩
    · have hk8 : (k : Int) < 4 := by omega
      have hk9 : k < 4 := by omega
      have hk0 : (0 : Int) ≤ (k : Int) := by omega
      have hk3 : (k : Int) ≤ 3 := by omega
      have hc := KK.cell
      have z18 := zero18
      have iF := fieldSL
      have iE : ∀ (f g : Nat → Int) (w : World), (Op.equalIn 10000 29 (.agg (mk 16 f)) (.agg (mk 16 g))).run Try.prog w = .ok (sameB f g) w := eqB 9996
      have HV := Lib.hid hV
      have HVS := Lib.hid (slideB_vd hV k)
      clear hc
      gi_wp2_with ((with_reducible show wpListIn _ _ _ _ _ (Oper.mk _ (Op.load 29 _) _ _ _ _ :: _) _ _); refine loadIn (K1) rfl rfl rfl Try.underlying29 rfl sizeB ?_)
      refine ⟨trivial, fun _ => by omega, ?_⟩
      refine (callsIn_wide.2 (slideTo_nat f k _ HV.out hk0 hk3)).mono ?_
      rintro e w3 ⟨rfl, hb⟩
      have hvia : Via K wr w3 := Via.low hb HG.out.map
      have K1 := hvia.blk K1
      have KK := hvia.box KK
      have KN := hvia.box KN
      have HM := Lib.hid (HM.out.kept (hvia.from (n₀ := W.heap.size) (by omega)))
      have HJ := Lib.hid (hJ _ _ _ HJ.out hvia)
      have HG := Lib.hid (HG.out.low hb)
      have hs3 := hvia.1.size
      have K6 := Blk.new w3 16 (slideB f k) 29
      have hvib : Via K w3 (w3.alloc (.cells (mk 16 (slideB f k)) 29)) := Via.low ((Below.refl _ w3).alloc (Nat.le_refl _) _) HG.out.map
      have K1 := hvib.blk K1
      have KK := hvib.box KK
      have KN := hvib.box KN
      have HM := Lib.hid (HM.out.kept (hvib.from (n₀ := W.heap.size) (by omega)))
      have HJ := Lib.hid (hJ _ _ _ HJ.out hvib)
      have HG := Lib.hid (HG.out.alloc (.cells (mk 16 (slideB f k)) 29))
      have hs4 := hvib.1.size
      have HS4 : Hid (W.heap.size ≤ (w3.alloc (.cells (mk 16 (slideB f k)) 29)).heap.size) := by show _ ≤ _; have := hwW.out; omega
      clear hb hvia hvib hwW
      by_cases hmv : isMv f k = true
      · have hq : sameB (slideB f k) f = false := by simpa [isMv] using hmv
        have HMV := Lib.hid hmv
        clear hmv
        gi_wp2_with (first | ((with_reducible show wpListIn _ _ _ _ _ (Oper.mk _ (Op.load 29 _) _ _ _ _ :: _) _ _); refine loadIn (K6) rfl rfl rfl Try.underlying29 rfl sizeB ?_) | ((with_reducible show wpListIn _ _ _ _ _ (Oper.mk _ (Op.load 29 _) _ _ _ _ :: _) _ _); refine loadIn (K1) rfl rfl rfl Try.underlying29 rfl sizeB ?_))
        refine ⟨trivial, fun _ => by omega, ?_⟩
        refine (callsIn_wide.2 (replies_in _ _)).mono ?_
        rintro e w5 ⟨rfl, hw5⟩
        obtain ⟨w4, hw4⟩ : ∃ w4, w4 = w3.alloc (.cells (mk 16 (slideB f k)) 29) := ⟨_, rfl⟩
        rw [← hw4] at hw5 HM HJ HG K1 KK KN HS4 hs4
        have KR := Blk.new w4 16 (slideB f k) 29
        rw [← hw5] at KR
        have hvic : Via K w4 w5 := by rw [hw5]; exact Via.low ((Below.refl _ w4).alloc (Nat.le_refl _) _) HG.out.map
        have K1 := hvic.blk K1
        have KK := hvic.box KK
        have KN := hvic.box KN
        have HM := Lib.hid (HM.out.kept (hvic.from (n₀ := W.heap.size) (by omega)))
        have HJ := Lib.hid (hJ _ _ _ HJ.out hvic)
        have HG : Hid (Good w5 K (m + k * (32 * cst n))) := by show Good _ _ _; rw [hw5]; exact HG.out.alloc _
        have hs5 := hvic.1.size
        have HS5 : Hid (W.heap.size ≤ w5.heap.size) := Nat.le_trans HS4.out hs5
        rw [← hw4]
        clear hw4 hw5 hvic hs3 hs4 K6 HS4
        generalize w4.heap.size = BR at *
        generalize w3.heap.size = B6 at *
        have HLL := Lib.hid hL
        have HHN := Lib.hid hN
        have hwN : IntKind.i64.wrap (N - 1) = N - 1 := IntWalk.i64_in _ (by omega)
        have HYY := Lib.hid hY
        have HJJ := Lib.hid hJ
        have HC := Lib.hid (show cst n = cst n from rfl)
        have HKK : Hid (K < w5.heap.size) := HG.out.lt
        clear hL hN hY hJ HC
        gi_wp2
        refine over_replies (n := nf) (by omega) HVS.out rfl rfl KR
          (fun pre Wx => Via K w5 Wx ∧ Good Wx K (m + k * (32 * cst n) + pre.length * cst n) ∧ ∀ p, p ∈ vals pre → lastF n (plB (slideB f k) p) = true)
          (fun c pre Wx => c = .exit 1 ∧ Via K w5 Wx ∧ Good Wx K (m + k * (32 * cst n) + 32 * cst n) ∧ ∃ p, p ∈ plA (slideB f k) ∧ lastF n (plB (slideB f k) p) = false)
          (OwnFrom.and (ownFrom_via (Nat.le_refl _)) (OwnFrom.and (good_own _ HKK.out) (ownFrom_pure _ _)))
          (fun c => OwnFrom.and (ownFrom_pure _ _) (OwnFrom.and (ownFrom_via (Nat.le_refl _)) (OwnFrom.and (good_own (fun _ => _) HKK.out) (ownFrom_pure _ _))))
          ⟨Via.refl HG.out.map, by simpa using HG.out, fun p hp => by cases hp⟩
          (fun x b c Wx => Blk Wx b 16 (plB (slideB f k) x.1) 29) (fun x b c => Own.from (blk_own _ _ _ _) _) ?A ?assign ?body ?done ?stop
        case assign =>
          rintro l2 pre x Wx C ⟨hv, hg, ha⟩ hC
          have hx := Blk.new Wx 16 (plB (slideB f k) x.1) 29
          have KRx := hv.blk KR
          have HHV := Lib.hid hv
          have HHG := Lib.hid hg
          have HHA := Lib.hid ha
          have HHC := Lib.hid hC
          clear hv hg ha hC
          gi_wp2
          have hq := HHC.out Wx.heap.size 0 (Wx.alloc (.cells (mk 16 (plB (slideB f k) x.1)) 29)) (KeepsFrom.of_grownBy (World.grownBy_alloc Wx _ none) (fun j e => by cases e)) (Keeps2.alloc KRx.lt _)
            ⟨HHV.out.trans (Via.low ((Below.refl _ Wx).alloc (Nat.le_refl _) _) HHG.out.map), HHG.out.alloc _, HHA.out⟩ hx
          clear HHC
          generalize Wx.alloc (.cells (mk 16 (plB (slideB f k) x.1)) 29) = W2 at *
          obtain ⟨cq, hcq⟩ : ∃ cq : Nat, cq = 0 := ⟨_, rfl⟩
          rw [← hcq] at hq
          clear hcq
          generalize Wx.heap.size = bq at *
          exact hq
        case body =>
          rintro l2 pre x b c Wx hl hr ⟨hv, hg, ha⟩ hx hlt
          have KKx := hv.box KK
          have KNx := hv.box KN
          have KRx := hv.blk KR
          have hcK := KKx.cell
          have hcN := KNx.cell
          have hp32 : pre.length + 1 ≤ 32 := by have := empN_le (slideB f k) 16; omega
          have e1 : k * (32 * cst n) ≤ 3 * (32 * cst n) := Nat.mul_le_mul_right _ (by omega)
          have e2 : (pre.length + 1) * cst n ≤ 32 * cst n := Nat.mul_le_mul_right _ hp32
          have e3 : (pre.length + 1) * cst n = pre.length * cst n + cst n := by rw [Nat.add_mul, Nat.one_mul]
          have HLX := HLL.out (plB (slideB f k) x.1) K _ Wx (plB_vd HVS.out x.2) hg (by omega)
          rw [← HHN.out] at HLX
          have HLY := Lib.hid HLX
          have HHV := Lib.hid hv
          have HHG := Lib.hid hg
          have HHA := Lib.hid ha
          have HE := Lib.hid (And.intro e2 e3)
          have HP := Lib.hid hp32
          have HR9 := Lib.hid hr
          clear HLX hv hg ha e1 e2 e3 hp32 hr KKx KNx
          gi_wp2_with ((with_reducible show wpListIn _ _ _ _ _ (Oper.mk _ (Op.load 29 _) _ _ _ _ :: _) _ _); refine loadIn (hx) rfl rfl rfl Try.underlying29 rfl sizeB ?_)
          refine ⟨trivial, fun _ => by omega, ?_⟩
          refine (CallsIn.inRound l2 (callsIn_wide.2 HLY.out)).mono ?_
          rintro e w6 ⟨rfl, hv6, hg6⟩
          have hkf := hv6.from HKK.out
          have hk2 := hv6.keeps2 KRx
          have hvt := HHV.out.trans hv6
          have he := HE.out
          have hGN : Good w6 K (m + k * (32 * cst n) + (pre ++ [x]).length * cst n) := by
            refine hg6.more ?_
            rw [List.length_append]
            show _ ≤ m + k * (32 * cst n) + (pre.length + 1) * cst n
            omega
          have hGX : Good w6 K (m + k * (32 * cst n) + 32 * cst n) := hg6.more (by omega)
          clear he hg6 hcK hcN
          have HQ := Lib.hid (And.intro hkf (And.intro hk2 hvt))
          have HGN := Lib.hid hGN
          have HGX := Lib.hid hGX
          clear hkf hk2 hvt hGN hGX hv6
          cases hq2 : lastF n (plB (slideB f k) x.1) with
          | true =>
            have HA2 : Hid (∀ p, p ∈ vals (pre ++ [x]) → lastF n (plB (slideB f k) p) = true) := by
              intro p hp
              rw [vals_snoc, List.mem_append, List.mem_singleton] at hp
              rcases hp with hp | rfl
              · exact HHA.out p hp
              · exact hq2
            clear hq2
            gi_wp2
            exact ⟨HQ.out.1, HQ.out.2.1, HQ.out.2.2, HGN.out, HA2.out⟩
          | false =>
            have HA2 : Hid (∃ p, p ∈ plA (slideB f k) ∧ lastF n (plB (slideB f k) p) = false) := ⟨x.1, plA_ok.2 x.2, hq2⟩
            clear hq2
            gi_wp2
            exact ⟨HQ.out.1, rfl, HQ.out.2.2, HGX.out, HA2.out⟩
        case done =>
          rintro D ys Wx hD hys ⟨hv, hg, ha⟩ hK
          have hsf : sfF n f k = true := sf_iff.2 ⟨HMV.out, fun p hp => ha p (by unfold vals; rw [hys]; exact hp)⟩
          have hyl : ys.length ≤ 32 := by
            have := plA_le (slideB f k)
            rw [← hys, List.length_map] at this; exact this
          have e2 : ys.length * cst n ≤ 32 * cst n := Nat.mul_le_mul_right _ hyl
          have K1 := hv.blk K1
          have KK := hv.box KK
          have KN := hv.box KN
          have HM2 := Lib.hid (HM.out.cons (hv.from (n₀ := W.heap.size) (by omega)) hD (Nat.le_trans HS5.out hD) hK)
          have HJ2 := Lib.hid (HJJ.out _ _ _ HJ.out hv)
          have HG2 : Hid (Good Wx K (m + (k + 1) * (32 * cst n))) := by show Good _ _ _; exact hg.more (by rw [Nat.add_mul]; omega)
          have HSX : Hid (W.heap.size ≤ Wx.heap.size) := Nat.le_trans HS5.out hv.1.size
          have HSF := Lib.hid hsf
          obtain ⟨fn, tmps, assign, body, hy, hR⟩ := HYY.out (sfL n f k) k Wx HJ2.out (by have := sfL_le n f k; omega)
          have HR := Lib.hid hR
          clear hsf hyl e2 hv hg ha hK hR hys HM HJ HG
          gi_wp2
          refine ⟨fun _ => by omega, ?_⟩
          refine HR.out.mono ?_
          rintro e W3 (⟨rfl, hJ3, hk3⟩ | ⟨rfl, hJx3, hk3⟩)
          · have HJ3 : Hid (J (sfL n f (k + 1)) W3) := by show J _ _; rw [sfL_yes HSF.out]; exact hJ3
            have K1 : Blk W3 B 16 f 29 := hk3.one.trans K1
            have KK : Boxed W3 KB 122 (.map (some K)) := hk3.two.trans KK
            have KN : Boxed W3 NB 3 (.int .i64 N) := hk3.three.trans KN
            have HM3 := Lib.hid (HM2.out.via hk3 hn0)
            have HG3 := Lib.hid (hk3.good _ HG2.out)
            have hs3 := hk3.size
            have HS3 : Hid (W.heap.size ≤ W3.heap.size) := Nat.le_trans HSX.out hs3
            have hn3 : n₀ ≤ W3.heap.size := Nat.le_trans hn0 HS3.out
            clear hJ3 hk3 hy HR HM2 HG2 HJ2 hs3
            gi_wp2
            refine ⟨⟨k + 1, _, _, _, _, _, _, _, _, _, _, _, _, _, _, _, _, _, _, _, _, _, _, _, _, _, _, _, _, _, _, rfl, by omega, HM3, HJ3, HG3, K1, KK, KN, hn3, HS3⟩, ?_⟩
            simp [intOf]
            omega
          · have HJX := Lib.hid hJx3
            have HM3 := Lib.hid (HM2.out.via hk3 hn0)
            have HG3 := Lib.hid (hk3.good _ HG2.out)
            clear hJx3 hk3 hy HR HM2 HG2 HJ2
            gi_wp2
            show LeavesInM _ _ _ _ _ _ _ _ _
            obtain ⟨Ds, hds, hnd, hDs⟩ := HM3.out
            rw [hds]
            refine leaves_marks (n₀ := W.heap.size) (fun V => Jx (sfL n f k ++ [k]) V ∧ Good V K (m + 128 * cst n)) ?_ ?_ Ds W3 hnd hDs ⟨HJX.out, HG3.out.more (by have : (k + 1) * (32 * cst n) ≤ 4 * (32 * cst n) := Nat.mul_le_mul_right _ (by omega); omega)⟩
            · rintro V D hD hx ⟨q1, q2⟩
              exact ⟨hJxd _ _ _ _ _ q1 hD hx, q2.kept (grownBy_putObj' V D _) (by simp; omega)⟩
            · rintro V ⟨q1, q2⟩
              refine ⟨_, results_none rfl _ _ _, ⟨_, rfl⟩, q2, .inr ⟨_, ?_, q1⟩⟩
              rw [← sfL_yes HSF.out]
              obtain ⟨M, hM⟩ := sfL_pre (n := n) (f := f) (k + 1) (3 - k)
              exact ⟨M, by rw [← hM]; congr 1; omega⟩
        case stop =>
          rintro D c pre Wx hD ⟨rfl, hv, hg, p, hp, hlp⟩ hK
          have hsf : sfF n f k = false := by
            cases h : sfF n f k with
            | false => rfl
            | true => rw [(sf_iff.1 h).2 p hp] at hlp; cases hlp
          have K1 := hv.blk K1
          have KK := hv.box KK
          have KN := hv.box KN
          have HM2 := Lib.hid (HM.out.cons (hv.from (n₀ := W.heap.size) (by omega)) hD (Nat.le_trans HS5.out hD) hK)
          have HJ2 : Hid (J (sfL n f (k + 1)) Wx) := by show J _ _; rw [sfL_no hsf]; exact HJJ.out _ _ _ HJ.out hv
          have HG2 : Hid (Good Wx K (m + (k + 1) * (32 * cst n))) := by show Good _ _ _; exact hg.more (by rw [Nat.add_mul]; omega)
          have HSX : Hid (W.heap.size ≤ Wx.heap.size) := Nat.le_trans HS5.out hv.1.size
          have hn3 : n₀ ≤ Wx.heap.size := Nat.le_trans hn0 HSX.out
          clear hsf hv hg hK hp hlp HM HJ HG
          gi_wp2
          refine ⟨⟨k + 1, _, _, _, _, _, _, _, _, _, _, _, _, _, _, _, _, _, _, _, _, _, _, _, _, _, _, _, _, _, _, rfl, by omega, HM2, HJ2, HG2, K1, KK, KN, hn3, HSX⟩, ?_⟩
          simp [intOf]
          omega
      · have hmv : isMv f k = false := by simpa using hmv
        have hq : sameB (slideB f k) f = true := by simpa [isMv] using hmv
        have HJ : Hid (J (sfL n f (k + 1)) (w3.alloc (.cells (mk 16 (slideB f k)) 29))) := by show J _ _; rw [sfL_no (sf_mv hmv)]; exact HJ.out
        clear hmv
        gi_wp2_with (first | ((with_reducible show wpListIn _ _ _ _ _ (Oper.mk _ (Op.load 29 _) _ _ _ _ :: _) _ _); refine loadIn (K6) rfl rfl rfl Try.underlying29 rfl sizeB ?_) | ((with_reducible show wpListIn _ _ _ _ _ (Oper.mk _ (Op.load 29 _) _ _ _ _ :: _) _ _); refine loadIn (K1) rfl rfl rfl Try.underlying29 rfl sizeB ?_))
        refine ⟨⟨k + 1, ds, _, _, _, _, _, _, _, _, _, _, _, _, _, _, _, _, _, _, _, _, _, _, _, _, _, _, _, _, _, rfl, by omega, HM, HJ, Lib.hid (HG.out.more (by rw [Nat.add_mul]; omega)), K1, KK, KN, by omega, HS4⟩, ?_⟩
        simp [intOf]
        omega
end Go.Proofs.Ytlboglcpbbnbcab
namespace Go.Proofs.Ytlboglcpbbnbcab
open Go.RowKit Go.Shelf Plain
attribute [local go_sem] store_new Oper.semAt_some
set_option linter.unusedVariables false
set_option linter.unusedSimpArgs false

theorem sizeO : (Try.prog.info? 171).map (·.size) = some 17 := by kernel_rfl
theorem zero17 : (#[.int .i64 0, .int .i64 0, .int .i64 0, .int .i64 0, .int .i64 0, .int .i64 0, .int .i64 0, .int .i64 0, .int .i64 0, .int .i64 0, .int .i64 0, .int .i64 0, .int .i64 0, .int .i64 0, .int .i64 0, .int .i64 0, .int .i64 0] : Array Value) = mk 17 (fun _ => 0) := rfl
theorem zeroB8 (w : World) : (zeroValue 4).run Try.prog w = .ok (.bool false) w := by kernel_rfl
theorem run_buildO (f : Nat → Int) (n : Nat) (w : World) : (Instr.build 171 #[(0, .agg (mk 16 f)), (1, .int .i64 (n : Int))]).run Try.prog w = .ok (.agg (mk 17 (okF f n))) w := by kernel_rfl
theorem exec_buildO {o : Oper} {ev : Operand → Value} {w : World} (x y : Operand) (ho : o.op = .build 171 #[(0, x), (1, y)]) {f : Nat → Int} {n : Nat}
    (hx : ev x = .agg (mk 16 f)) (hy : ev y = .int .i64 (n : Int)) : (execOp ev o).run Try.prog w = .ok (.value (.agg (mk 17 (okF f n)))) w := by
  have hr := run_buildO f n w
  simp [execOp, ho, hx, hy, hr, Result.andThen]
theorem lookIn {F : Fence} {n : Nat} {w : World} {ops : Array Oper} {rest : List Oper} {o : Oper} {a : Act} {Q : Exit → Act → World → Prop} (m x : Operand) (hg : o.guard = none) (ho : o.op = .lookup 122 m x true)
    {K : Nat} {g : Nat → Int} (hm : a.eval m = .map (some K)) (hx : a.eval x = .agg (mk 17 g)) {c s : Bool} (hrun : (Instr.lookup 122 (.map (some K)) (.agg (mk 17 g)) true).run Try.prog w = .ok (.tuple #[.bool c, .bool s]) w)
    (h : wpListIn F n Try.prog ops Q rest (a.put o.dst (.tuple #[.bool c, .bool s])) w) : wpListIn F n Try.prog ops Q (o :: rest) a w :=
  wpListIn_exec hg (fun c e => by rw [ho] at e; cases e) (by simp [Oper.about, ho]) (by simp [execOp, ho, hm, hx, hrun, Result.andThen]) h
theorem putIn {F : Fence} {n : Nat} {w w' : World} {ops : Array Oper} {rest : List Oper} {o : Oper} {a : Act} {Q : Exit → Act → World → Prop} (m x y : Operand) (hg : o.guard = none) (ho : o.op = .mapUpdate 122 m x y)
    {K : Nat} {g : Nat → Int} {b : Bool} (hm : a.eval m = .map (some K)) (hx : a.eval x = .agg (mk 17 g)) (hy : a.eval y = .bool b) (hrun : (Instr.mapUpdate 122 (.map (some K)) (.agg (mk 17 g)) (.bool b)).run Try.prog w = .ok () w')
    (h : wpListIn F n Try.prog ops Q rest (a.put o.dst undef) w') : wpListIn F n Try.prog ops Q (o :: rest) a w := by
  refine wpListIn_plain hg fun C hC => ?_
  unfold Oper.wpIn
  refine ⟨fun f hf => (by simp [Oper.about, ho] at hf), ?_⟩
  rw [Oper.semAt_plain F _ _ (fun c e => by rw [ho] at e; cases e)]
  unfold execOp
  simp only [ho, hm, hx, hy, Sem.run_bind, Sem.run_pure, Result.andThen_ok, hrun]
  exact hC _ _ h
theorem Via.more {K : Nat} {w A B : World} {row : Option Nat} (h : Via K w A) (hg : A.grownBy B row) (hr : ∀ r, row = some r → w.heap.size ≤ r) : Via K w B := by
  obtain ⟨h1, ⟨es, c, q⟩, es2, c2, q2⟩ := h
  have hK := (Array.getElem?_eq_some_iff.1 q).1
  have hne : ∀ k, k < w.heap.size → some k ≠ row := fun k hk e => by have := hr k e.symm; omega
  refine ⟨⟨hg.os.trans h1.os, hg.tape.trans h1.tape, hg.output.trans h1.output, Nat.le_trans h1.size hg.size, fun k hk hkr => ?_⟩, ⟨es, c, q⟩, es2, c2, (hg.block K (Array.getElem?_eq_some_iff.1 q2).1 (hne K hK)).trans q2⟩
  exact (hg.block k (Nat.lt_of_lt_of_le hk h1.size) (hne k hk)).trans (h1.block k hk hkr)
theorem last_zero8 : LSn 0 := by
  intro f K m w hV hG hm
  have K1 := Blk.new w 16 f 29
  have HB := Lib.hid ((Below.refl w.heap.size w).alloc (Nat.le_refl _) (.cells (mk 16 f) 29))
  have HG := Lib.hid (hG.alloc (.cells (mk 16 f) 29))
  have HM := Lib.hid hG.map
  clear hV hG hm
  rw [last_zero]
  show Calls _ _ #[_, _, .int .i64 0] _ _
  refine (callsIn_wide (n := 8)).1 ?_
  refine callsIn_of_wp_marks Try.func107 rfl trivial ?_ rfl
  simp only [Try.ntmps107, List.size_toArray, List.length_cons, List.length_nil, Nat.reduceAdd, Nat.reduceSub, Array.replicate_succ, Array.replicate_zero, List.push_toArray, List.append_toArray, List.nil_append, List.cons_append]
  gi_wp2
  show LeavesInM _ _ _ _ _ _ _ _ _
  exact ⟨_, results_tmp rfl _ _ _, rfl, Via.low HB.out HM.out, HG.out.more (by omega)⟩
theorem over_viaA {α : Type} {n K : Nat} (h1 : 1 ≤ n) {g : Operand} {ps : Array Tmp} {assign body : Code} {Q : Exit → Act → World → Prop} {a : Act} {w : World}
    {gf : Nat} {lb : Array Value} (hg : a.eval g = .func (.func gf) #[] lb) (eg : ∀ args w, (callFunc gf args).run Try.prog w = .ok (.enter gf args) w)
    {encs : α → Array Value} {Kp : World → World → Prop} {T : World → Prop} {S Sp : List α → Prop} {N : Nat} (hseq : SeqVia (n - 1) K gf lb encs Kp T S Sp N w)
    (hKt : ∀ {A B C : World}, Kp A B → Kp B C → Kp A C) (hKb : ∀ (W : World) (l : Nat) (r : Loop) (o : Obj), w.heap.size ≤ l → W.heap[l]? = some (.loop r) → Kp W (W.putObj l o)) (hps : ∀ x, (encs x).size = ps.size)
    (I : List α → World → Prop) (Ix : Code → List α → World → Prop) (hI : OwnFrom w.heap.size I) (hIx : ∀ c, OwnFrom w.heap.size (Ix c)) (hIv : ∀ s A B, I s A → Via K A B → I s B) (hIxv : ∀ c s A B, Ix c s A → Via K A B → Ix c s B) (h0 : I [] w)
    (hT : ∀ W l o, w.heap.size ≤ l → T W → T (W.putObj l o)) (A : α → Act)
    (hassign : ∀ (l : Nat) (pre : List α) (x : α) (W : World) (C : Act → World → Prop), I pre W → (∀ W', KeepsFrom w.heap.size W W' → Kp W W' → I pre W' → C (A x) W') →
      assign.wpIn (Fence.wide.inRound l) (n - 1 - 1) Try.prog (Exit.then C (fun _ _ _ => False)) { tmps := (ps.zip (encs x)).foldl (fun t (p, v) => t.setIfInBounds p v) a.tmps, defers := [] } W)
    (hbody : ∀ (l : Nat) (pre : List α) (x : α) (W : World), w.heap.size ≤ l → I pre W → pre.length < N → body.wpIn (Fence.wide.inRound l) (n - 1 - 1) Try.prog (viaPost w.heap.size Kp I Ix (pre ++ [x]) W) (A x) W)
    (hdone : ∀ (D : Nat) (xs : List α) (W : World), w.heap.size ≤ D → S xs → I xs W → T W → W.heap[D]? = some (.deferred (some [])) → Q .normal { a with defers := { target := .collected D, args := #[] } :: a.defers } W)
    (hstop : ∀ (D : Nat) (c : Code) (pre : List α) (W : World), w.heap.size ≤ D → Sp pre → Ix c pre W → T W → W.heap[D]? = some (.deferred (some [])) → c.wpIn Fence.wide n Try.prog Q { a with defers := { target := .collected D, args := #[] } :: a.defers } W) :
    (Code.rangeFunc g ps assign body).wpIn Fence.wide n Try.prog Q a w :=
  over_via h1 hg eg hseq hKt hKb hps I Ix hI hIx hIv hIxv h0 (fun x a' _ => a' = A x) (fun _ _ _ _ _ _ hs _ _ => hs) hT
    (fun l pre x W C hi hC => hassign l pre x W C hi fun W' k1 k2 k3 => hC _ W' k1 k2 k3 rfl) (fun l pre x a' W hl hi e hlt => by subst e; exact hbody l pre x W hl hi hlt) hdone hstop
set_option maxRecDepth 100000 in
set_option maxHeartbeats 4000000 in
theorem last_step {n : Nat} (hL : LSn n) (hn : n ≤ 2) : LSn (n + 1) := by
  intro f K m w hV hG hm
  have hcst : cst (n + 1) = 1 + 128 * cst n := rfl
  rw [hcst] at hm
  refine (callsIn_wide (n := 8)).1 ?_
  have z17 := zero17
  have hKw := hG.lt
  have K1 := Blk.new w 16 f 29
  have K1b := K1.alloc (.cells (mk 17 (okF f (n + 1))) 171)
  have K7 := Blk.new (w.alloc (.cells (mk 16 f) 29)) 17 (okF f (n + 1)) 171
  have HB2 := Lib.hid (((Below.refl w.heap.size w).alloc (Nat.le_refl _) (.cells (mk 16 f) 29)).alloc (by simp) (.cells (mk 17 (okF f (n + 1))) 171))
  have HG2 := Lib.hid ((hG.alloc (.cells (mk 16 f) 29)).alloc (.cells (mk 17 (okF f (n + 1))) 171))
  simp only [World.size_alloc] at K7
  obtain ⟨c, s, hlook, hs1, hs2⟩ := HG2.out.look (zeroB8 _) (f := f) (n := n + 1) hV (by omega)
  have HM := Lib.hid hG.map
  have HV := Lib.hid hV
  have HLK := Lib.hid hlook
  have HS1 := Lib.hid hs1
  have HS2 := Lib.hid hs2
  have HL := Lib.hid hL
  have hne : (((n + 1 : Nat) : Int) == 0) = false := by rw [beq_eq_false_iff_ne]; omega
  have HNN : Hid (((n + 1 : Nat) : Int) - 1 = (n : Int)) := by show _ = _; omega
  clear hlook hs1 hs2 hL hV hG
  refine callsIn_of_wp_marks Try.func107 rfl trivial ?_ rfl
  simp only [Try.ntmps107, List.size_toArray, List.length_cons, List.length_nil, Nat.reduceAdd, Nat.reduceSub, Array.replicate_succ, Array.replicate_zero, List.push_toArray, List.append_toArray, List.nil_append, List.cons_append]
  cases s with
  | true =>
    have HC : Hid (c = lastF (n + 1) f) := HS1.out rfl
    clear HS1 HS2
    gi_wp2_with (first | ((with_reducible show wpListIn _ _ _ _ _ (Oper.mk _ (Op.load 29 _) _ _ _ _ :: _) _ _); refine loadIn (K1) rfl rfl rfl Try.underlying29 rfl sizeB ?_) | ((with_reducible show wpListIn _ _ _ _ _ (Oper.mk _ (Op.load 29 _) _ _ _ _ :: _) _ _); refine loadIn (K1b) rfl rfl rfl Try.underlying29 rfl sizeB ?_) | ((with_reducible show wpListIn _ _ _ _ _ (Oper.mk _ (Op.load 171 _) _ _ _ _ :: _) _ _); refine loadIn (K7) rfl rfl rfl Try.underlying171 rfl sizeO ?_) | ((with_reducible show wpListIn _ _ _ _ _ (Oper.mk _ (Op.build 171 _) _ _ _ _ :: _) _ _); refine wpListIn_exec rfl (fun _ h => by cases h) rfl (exec_buildO (f := f) (n := n + 1) _ _ rfl rfl rfl) ?_) | ((with_reducible show wpListIn _ _ _ _ _ (Oper.mk _ (Op.lookup _ _ _ _) _ _ _ _ :: _) _ _); refine lookIn _ _ rfl rfl rfl rfl HLK.out ?_))
    show LeavesInM _ _ _ _ _ _ _ _ _
    refine ⟨_, results_tmp rfl _ _ _, by rw [← HC.out]; rfl, ?_, ?_⟩
    · exact Via.low (HB2.out.alloc HB2.out.size _) HM.out
    · exact (HG2.out.alloc _).more (by omega)
  | false =>
    obtain rfl : c = false := HS2.out rfl
    clear HS1 HS2
    have K1c := K1b.alloc (.cells #[.bool false] 4)
    have K7c := K7.alloc (.cells #[.bool false] 4)
    have K8 := Boxed.new ((w.alloc (.cells (mk 16 f) 29)).alloc (.cells (mk 17 (okF f (n + 1))) 171)) 4 (.bool false)
    simp only [World.size_alloc] at K8
    gi_wp2_with (first | ((with_reducible show wpListIn _ _ _ _ _ (Oper.mk _ (Op.load 29 _) _ _ _ _ :: _) _ _); refine loadIn (K1) rfl rfl rfl Try.underlying29 rfl sizeB ?_) | ((with_reducible show wpListIn _ _ _ _ _ (Oper.mk _ (Op.load 29 _) _ _ _ _ :: _) _ _); refine loadIn (K1b) rfl rfl rfl Try.underlying29 rfl sizeB ?_) | ((with_reducible show wpListIn _ _ _ _ _ (Oper.mk _ (Op.load 29 _) _ _ _ _ :: _) _ _); refine loadIn (K1c) rfl rfl rfl Try.underlying29 rfl sizeB ?_) | ((with_reducible show wpListIn _ _ _ _ _ (Oper.mk _ (Op.load 171 _) _ _ _ _ :: _) _ _); refine loadIn (K7) rfl rfl rfl Try.underlying171 rfl sizeO ?_) | ((with_reducible show wpListIn _ _ _ _ _ (Oper.mk _ (Op.build 171 _) _ _ _ _ :: _) _ _); refine wpListIn_exec rfl (fun _ h => by cases h) rfl (exec_buildO (f := f) (n := n + 1) _ _ rfl rfl rfl) ?_) | ((with_reducible show wpListIn _ _ _ _ _ (Oper.mk _ (Op.lookup _ _ _ _) _ _ _ _ :: _) _ _); refine lookIn _ _ rfl rfl rfl rfl HLK.out ?_))
    first | refine ⟨trivial, fun _ => by omega, ?_⟩ | refine ⟨trivial, ?_⟩
    refine (callsIn_wide.2 (safe_in K f _ _)).mono ?_
    rintro e w4 ⟨rfl, hw4⟩
    obtain ⟨w3, hw3⟩ : ∃ w3, w3 = ((w.alloc (.cells (mk 16 f) 29)).alloc (.cells (mk 17 (okF f (n + 1))) 171)).alloc (.cells #[.bool false] 4) := ⟨_, rfl⟩
    have hs3 : w3.heap.size = w.heap.size + 3 := by rw [hw3]; simp
    have HB3 : Hid (Below w.heap.size w w3) := by show Below _ _ _; rw [hw3]; exact HB2.out.alloc HB2.out.size _
    have HG3 : Hid (Good w3 K m) := by show Good _ _ _; rw [hw3]; exact HG2.out.alloc _
    rw [← hw3] at hw4 K1c K7c K8
    rw [← hw3]
    clear hw3 K1 K1b K7 HLK HB2 HG2
    have KKB := ((Boxed.new w3 122 (.map (some K))).alloc (.cells (mk 16 f) 29)).alloc (.cells #[.int .i64 ((n : Int) + 1)] 3)
    have KBB := (Blk.new (w3.alloc (.cells #[.map (some K)] 122)) 16 f 29).alloc (.cells #[.int .i64 ((n : Int) + 1)] 3)
    have KNB := Boxed.new ((w3.alloc (.cells #[.map (some K)] 122)).alloc (.cells (mk 16 f) 29)) 3 (.int .i64 ((n : Int) + 1))
    simp only [World.size_alloc] at KBB KNB
    have K7d := ((K7c.alloc (.cells #[.map (some K)] 122)).alloc (.cells (mk 16 f) 29)).alloc (.cells #[.int .i64 ((n : Int) + 1)] 3)
    have K8d := ((K8.alloc (.cells #[.map (some K)] 122)).alloc (.cells (mk 16 f) 29)).alloc (.cells #[.int .i64 ((n : Int) + 1)] 3)
    have HG4 : Hid (Good w4 K m) := by show Good _ _ _; rw [hw4]; exact ((HG3.out.alloc _).alloc _).alloc _
    have HB4 : Hid (Below w.heap.size w w4) := by show Below _ _ _; rw [hw4]; exact ((HB3.out.alloc HB3.out.size _).alloc (by simp; omega) _).alloc (by simp; omega) _
    have hs4 : w4.heap.size = w.heap.size + 6 := by rw [hw4]; simp; omega
    rw [← hw4] at KKB KBB KNB K7d K8d
    clear hw4 K1c K7c K8 HB3 HG3
    have HV4 : Hid (Via K w w4) := Via.low HB4.out HM.out
    have hKn : K < w4.heap.size := by omega
    rw [hs3] at KKB KBB KNB ⊢
    have HSEQ := Lib.hid (fun (l : Nat) (J Jx : List Nat → World → Prop) (W : World) (hb : Below w4.heap.size w4 W) (hj : ∀ s A X, J s A → Via K A X → J s X) (hjx : ∀ s A X, Jx s A → Via K A X → Jx s X)
      (hjd : ∀ s A D x o, J s A → W.heap.size ≤ D → A.heap[D]? = some (.deferred x) → J s (A.putObj D o)) (hjxd : ∀ s A D x o, Jx s A → W.heap.size ≤ D → A.heap[D]? = some (.deferred x) → Jx s (A.putObj D o)) hY h0 =>
      safe1_in 7 l (w.heap.size + 3 + 1) (w.heap.size + 3) (w.heap.size + 3 + 1 + 1) K m n w4.heap.size ((n : Int) + 1) f (by omega) HV.out HL.out (by omega) hn (by omega) J Jx W hb.size (by omega) (by omega) (by omega) (by omega) hj hjx hjd hjxd hY
        (KBB.below hb KBB.lt) (box_low KKB hb) (box_low KNB hb) (HG4.out.low hb) h0)
    have HN7 := Lib.hid HNN
    have hHm := Lib.hid hm
    clear hm HNN hcst hne
    gi_wp2
    refine over_viaA (α := Nat) (K := K) (n := 8) (by omega) rfl safe_enters (encs := fun x => #[.int .i64 (x : Int)]) (Kp := KpS (w.heap.size + 3 + 1) (w.heap.size + 3) (w.heap.size + 3 + 1 + 1) K w4.heap.size) (T := fun W => Good W K (m + 128 * cst n)) (S := fun xs => xs = sfL n f 4) (Sp := fun pre => ∃ M, sfL n f 4 = pre ++ M) (N := 4)
      HSEQ.out (fun h k => h.trans k) (KpS.book (by omega) (by omega) (by omega) hKn) (fun x => rfl)
      (fun pre W => pre = [] ∧ Via K w W ∧ Boxed W (w.heap.size + 1 + 1) 4 (.bool false) ∧ Blk W (w.heap.size + 1) 17 (okF f (n + 1)) 171)
      (fun c pre W => c = .exit 0 ∧ pre ≠ [] ∧ Via K w W ∧ Boxed W (w.heap.size + 1 + 1) 4 (.bool true) ∧ Blk W (w.heap.size + 1) 17 (okF f (n + 1)) 171)
      (OwnFrom.and (ownFrom_pure _ _) (OwnFrom.and (ownFrom_via (by omega)) (OwnFrom.and (Own.from (boxed_own _ _ (fun _ => _)) _) (Own.from (blk_own _ _ _ _) _))))
      (fun c => OwnFrom.and (ownFrom_pure _ _) (OwnFrom.and (ownFrom_pure _ _) (OwnFrom.and (ownFrom_via (by omega)) (OwnFrom.and (Own.from (boxed_own _ _ (fun _ => _)) _) (Own.from (blk_own _ _ _ _) _)))))
      (fun s A B h v => ⟨h.1, h.2.1.trans v, v.box h.2.2.1, v.blk h.2.2.2⟩) (fun c s A B h v => ⟨h.1, h.2.1, h.2.2.1.trans v, v.box h.2.2.2.1, v.blk h.2.2.2.2⟩) ⟨rfl, HV4.out, K8d, K7d⟩
      (fun W l o hl g => g.kept (grownBy_putObj' W l o) (by simp; omega)) ?A ?assign ?body ?done ?stop
    case assign =>
      rintro l pre x Wx C ⟨hp, hv, h8, h7⟩ hC
      have hq := hC Wx (KeepsFrom.refl _ _) ⟨Nat.le_refl _, rfl, rfl, rfl, fun m g => g, fun D x _ h => h⟩ ⟨hp, hv, h8, h7⟩
      clear hC
      gi_wp2
      exact hq
    case body =>
      rintro l pre x Wx hl ⟨hp, hv, h8, h7⟩ hlt
      have c8 := h8.cell
      have f8 := h8.frozen
      have h8b := h8.set (.bool true)
      have hg := grownBy_setCell' Wx (w.heap.size + 1 + 1) (.bool true)
      have h7b := h7.grown hg (sne (by omega))
      have hvb := hv.more hg (fun r e => by cases e; omega)
      have hsz := hv.1.size
      have hs8 := h8.lt
      have HQ : Hid (KeepsFrom w4.heap.size Wx (Wx.setCell ⟨w.heap.size + 1 + 1, 0, none⟩ (.bool true)) ∧ KpS (w.heap.size + 3 + 1) (w.heap.size + 3) (w.heap.size + 3 + 1 + 1) K w4.heap.size Wx (Wx.setCell ⟨w.heap.size + 1 + 1, 0, none⟩ (.bool true))) := by
        refine ⟨(KeepsOthers.setCell _ _ _).from _, ⟨hg.size, ?_, ?_, ?_, fun m g => g.kept hg (by simp; omega), fun D x hD hx => (hg.block D (Array.getElem?_eq_some_iff.1 hx).1 (by simp; omega)).trans hx⟩⟩
        · exact Below.heap_setCell Wx _ _ _ (by dsimp only; omega)
        · exact Below.heap_setCell Wx _ _ _ (by dsimp only; omega)
        · exact Below.heap_setCell Wx _ _ _ (by dsimp only; omega)
      have HX := Lib.hid (And.intro hvb (And.intro h8b h7b))
      clear h8b hg h7b hvb hv h8 h7 hp hsz hs8
      gi_wp2
      exact ⟨HQ.out.1, HQ.out.2, rfl, by simp, HX.out.1, HX.out.2.1, HX.out.2.2⟩
    case done =>
      rintro D xs Wx hD hS ⟨hp, hv, h8, h7⟩ hT hK
      have hlf : lastF (n + 1) f = false := by rw [last_sfL, ← hS, hp]; rfl
      have hD2 : w.heap.size + 6 ≤ D := by omega
      obtain ⟨w8, hput, hG8, hg8⟩ := hT.put (by have := hHm.out; unfold maxLen; omega) HV.out (n := n + 1) (by omega)
      rw [hlf] at hput
      have hKD : some D ≠ some K := fun e => by have := Option.some.inj e; omega
      have hK8 : w8.heap[D]? = some (.deferred (some [])) := (hg8.block D (Array.getElem?_eq_some_iff.1 hK).1 hKD).trans hK
      have hvx : Via K Wx w8 := ⟨hg8, hT.map, hG8.map⟩
      have h8x := hvx.box h8
      have c8 := h8.cell
      have c8x := h8x.cell
      have HLF := Lib.hid hlf
      have HPT := Lib.hid hput
      have HFI : Hid (Via K w (w8.putObj D (.deferred none)) ∧ Good (w8.putObj D (.deferred none)) K (m + (1 + 128 * cst n))) :=
        ⟨(hv.trans hvx).more (grownBy_putObj' w8 D _) (fun r e => by cases e; omega), (hG8.kept (grownBy_putObj' w8 D _) (fun e => hKD e.symm)).more (by omega)⟩
      have HK8 := Lib.hid hK8
      clear hlf hput hKD hK8 hvx h8x hG8 hg8 hT hK hv h8
      gi_wp2_with (first | ((with_reducible show wpListIn _ _ _ _ _ (Oper.mk _ (Op.load 171 _) _ _ _ _ :: _) _ _); refine loadIn (h7) rfl rfl rfl Try.underlying171 rfl sizeO ?_) | ((with_reducible show wpListIn _ _ _ _ _ (Oper.mk _ (Op.mapUpdate _ _ _ _) _ _ _ _ :: _) _ _); refine putIn _ _ _ rfl rfl rfl rfl rfl HPT.out ?_))
      show LeavesInM _ _ _ _ _ _ _ _ _
      refine ⟨by simp, .inl ⟨D, _, rfl, run_takeDeferred HK8.out, ?_⟩⟩
      exact ⟨_, results_tmp rfl _ _ _, by rw [HLF.out]; rfl, HFI.out.1, HFI.out.2⟩
    case stop =>
      rintro D c pre Wx hD ⟨M, hM⟩ ⟨rfl, hne, hv, h8, h7⟩ hT hK
      have hlf : lastF (n + 1) f = true := by rw [last_sfL, hM]; cases pre <;> simp_all
      clear hM hne
      have hD2 : w.heap.size + 6 ≤ D := by omega
      obtain ⟨w8, hput, hG8, hg8⟩ := hT.put (by have := hHm.out; unfold maxLen; omega) HV.out (n := n + 1) (by omega)
      rw [hlf] at hput
      have hKD : some D ≠ some K := fun e => by have := Option.some.inj e; omega
      have hK8 : w8.heap[D]? = some (.deferred (some [])) := (hg8.block D (Array.getElem?_eq_some_iff.1 hK).1 hKD).trans hK
      have hvx : Via K Wx w8 := ⟨hg8, hT.map, hG8.map⟩
      have h8x := hvx.box h8
      have c8 := h8.cell
      have c8x := h8x.cell
      have HLF := Lib.hid hlf
      have HPT := Lib.hid hput
      have HFI : Hid (Via K w (w8.putObj D (.deferred none)) ∧ Good (w8.putObj D (.deferred none)) K (m + (1 + 128 * cst n))) :=
        ⟨(hv.trans hvx).more (grownBy_putObj' w8 D _) (fun r e => by cases e; omega), (hG8.kept (grownBy_putObj' w8 D _) (fun e => hKD e.symm)).more (by omega)⟩
      have HK8 := Lib.hid hK8
      clear hlf hput hKD hK8 hvx h8x hG8 hg8 hT hK hv h8
      gi_wp2_with (first | ((with_reducible show wpListIn _ _ _ _ _ (Oper.mk _ (Op.load 171 _) _ _ _ _ :: _) _ _); refine loadIn (h7) rfl rfl rfl Try.underlying171 rfl sizeO ?_) | ((with_reducible show wpListIn _ _ _ _ _ (Oper.mk _ (Op.mapUpdate _ _ _ _) _ _ _ _ :: _) _ _); refine putIn _ _ _ rfl rfl rfl rfl rfl HPT.out ?_))
      show LeavesInM _ _ _ _ _ _ _ _ _
      refine ⟨by simp, .inl ⟨D, _, rfl, run_takeDeferred HK8.out, ?_⟩⟩
      exact ⟨_, results_tmp rfl _ _ _, by rw [HLF.out]; rfl, HFI.out.1, HFI.out.2⟩
theorem last_all8 : ∀ n, n ≤ 3 → LSn n
  | 0, _ => last_zero8
  | n + 1, h => last_step (last_all8 n (by omega)) (by omega)
end Go.Proofs.Ytlboglcpbbnbcab
