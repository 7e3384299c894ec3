/-
  A loop over an iterator that changes a map on its way: the map lies ahead of the loop, and neither the loop's own invariant nor its body speaks of it. Nothing is proved here of the program's functions.
-/
import Derived.Test.YtlboglcpbbnbcaaOverR
namespace Go.Proofs.Ytlboglcpbbnbcaa
open Go.RowKit Go.Shelf Plain
set_option linter.unusedVariables false
set_option linter.unusedSimpArgs false

/-- A world behind another, in which one map may have changed. -/
def Via (K : Nat) (A B : World) : Prop := A.grownBy B (some K) ∧ (∃ es c, A.heap[K]? = some (.map es c)) ∧ ∃ es c, B.heap[K]? = some (.map es c)
theorem Via.trans {K : Nat} {A B C : World} (h : Via K A B) (k : Via K B C) : Via K A C := ⟨h.1.trans k.1, h.2.1, k.2.2⟩
theorem Via.refl {K : Nat} {A : World} (h : ∃ es c, A.heap[K]? = some (.map es c)) : Via K A A := ⟨⟨rfl, rfl, rfl, Nat.le_refl _, fun _ _ _ => rfl⟩, h, h⟩
theorem Via.low {K : Nat} {A B : World} (h : Below A.heap.size A B) (hm : ∃ es c, A.heap[K]? = some (.map es c)) : Via K A B := by
  obtain ⟨es, c, e⟩ := hm
  exact ⟨⟨h.os, h.tape, h.output, h.size, fun k hk _ => h.block k hk⟩, ⟨es, c, e⟩, es, c, (h.block K (Array.getElem?_eq_some_iff.1 e).1).trans e⟩
theorem Via.keeps {K : Nat} {A B : World} (h : Via K A B) {k : Nat} {o : Obj} (hk : A.heap[k]? = some o) (ho : ∀ es c, o ≠ .map es c) : B.heap[k]? = some o := by
  refine (h.1.block k (Array.getElem?_eq_some_iff.1 hk).1 (fun e => ?_)).trans hk
  cases e
  obtain ⟨es, c, q⟩ := h.2.1
  rw [q] at hk
  cases hk
  exact ho es c rfl
/-- What the iterator asks of a round: K's own properties Kp are kept. -/
def SeqVia {α : Type} (n : Nat) (K : Nat) (g : Nat) (lb : Array Value) (encs : α → Array Value) (Kp : World → World → Prop) (T : World → Prop) (S Sp : List α → Prop) (N : Nat) (w : World) : Prop :=
  ∀ (l : Nat) (J Jx : List α → World → Prop) (W : World), Below w.heap.size w W → (∀ s A B, J s A → Via K A B → J s B) → (∀ s A B, Jx s A → Via K A B → Jx s B) →
    (∀ s A D x o, J s A → W.heap.size ≤ D → A.heap[D]? = some (.deferred x) → J s (A.putObj D o)) → (∀ s A D x o, Jx s A → W.heap.size ≤ D → A.heap[D]? = some (.deferred x) → Jx s (A.putObj D o)) →
    (∀ pre x W1, J pre W1 → pre.length < N → YieldAt Fence.wide (n - 1) Try.prog l (encs x) W1 fun e W' =>
      (e = .returned (.bool true) ∧ J (pre ++ [x]) W' ∧ Kp W1 W') ∨ (e = .returned (.bool false) ∧ Jx (pre ++ [x]) W' ∧ Kp W1 W')) →
    J [] W →
    CallsIn Fence.wide n Try.prog g (#[.func (.yield l) #[] #[]] ++ lb) W fun e W' => (∃ v, e = .returned v) ∧ T W' ∧ ((∃ xs, S xs ∧ J xs W') ∨ (∃ pre, Sp pre ∧ Jx pre W'))
/-- What a round of such a loop leaves. -/
def viaPost {α : Type} (B : Nat) (Kp : World → World → Prop) (I : List α → World → Prop) (Ix : Code → List α → World → Prop) (xs : List α) (W : World) : Exit → Act → World → Prop
  | .normal, _, W' => KeepsFrom B W W' ∧ Kp W W' ∧ I xs W'
  | .ret, _, W' => KeepsFrom B W W' ∧ Kp W W' ∧ Ix .ret xs W'
  | .exit id, _, W' => KeepsFrom B W W' ∧ Kp W W' ∧ Ix (.exit id) xs W'
  | .goto t, _, W' => KeepsFrom B W W' ∧ Kp W W' ∧ Ix (.goto t) xs W'
  | .panic _, _, _ => False
  | .outgrown, _, _ => False
theorem over_via {α : Type} {n K : Nat} (h1 : 1 ≤ n) {g : Operand} {ps : Array Tmp} {assign body : Code} {Q : Exit → Act → World → Prop} {a : Act} {w : World}
    {gf : Nat} {lb : Array Value} (hg : a.eval g = .func (.func gf) #[] lb) (eg : ∀ args w, (callFunc gf args).run Try.prog w = .ok (.enter gf args) w)
    {encs : α → Array Value} {Kp : World → World → Prop} {T : World → Prop} {S Sp : List α → Prop} {N : Nat} (hseq : SeqVia (n - 1) K gf lb encs Kp T S Sp N w)
    (hKt : ∀ {A B C : World}, Kp A B → Kp B C → Kp A C) (hKb : ∀ (W : World) (l : Nat) (r : Loop) (o : Obj), w.heap.size ≤ l → W.heap[l]? = some (.loop r) → Kp W (W.putObj l o)) (hps : ∀ x, (encs x).size = ps.size)
    (I : List α → World → Prop) (Ix : Code → List α → World → Prop) (hI : OwnFrom w.heap.size I) (hIx : ∀ c, OwnFrom w.heap.size (Ix c)) (hIv : ∀ s A B, I s A → Via K A B → I s B) (hIxv : ∀ c s A B, Ix c s A → Via K A B → Ix c s B) (h0 : I [] w)
    (Ax : α → Act → World → Prop) (hAx : ∀ x a', OwnFrom w.heap.size (fun (_ : Unit) W => Ax x a' W)) (hT : ∀ W l o, w.heap.size ≤ l → T W → T (W.putObj l o))
    (hassign : ∀ (l : Nat) (pre : List α) (x : α) (W : World) (C : Act → World → Prop), I pre W → (∀ a' W', KeepsFrom w.heap.size W W' → Kp W W' → I pre W' → Ax x a' W' → C a' W') →
      assign.wpIn (Fence.wide.inRound l) (n - 1 - 1) Try.prog (Exit.then C (fun _ _ _ => False)) { tmps := (ps.zip (encs x)).foldl (fun t (p, v) => t.setIfInBounds p v) a.tmps, defers := [] } W)
    (hbody : ∀ (l : Nat) (pre : List α) (x : α) (a' : Act) (W : World), w.heap.size ≤ l → I pre W → Ax x a' W → pre.length < N → body.wpIn (Fence.wide.inRound l) (n - 1 - 1) Try.prog (viaPost w.heap.size Kp I Ix (pre ++ [x]) W) a' W)
    (hdone : ∀ (D : Nat) (xs : List α) (W : World), w.heap.size ≤ D → S xs → I xs W → T W → W.heap[D]? = some (.deferred (some [])) → Q .normal { a with defers := { target := .collected D, args := #[] } :: a.defers } W)
    (hstop : ∀ (D : Nat) (c : Code) (pre : List α) (W : World), w.heap.size ≤ D → Sp pre → Ix c pre W → T W → W.heap[D]? = some (.deferred (some [])) → c.wpIn Fence.wide n Try.prog Q { a with defers := { target := .collected D, args := #[] } :: a.defers } W) :
    (Code.rangeFunc g ps assign body).wpIn Fence.wide n Try.prog Q a w := by
  refine wpIn_rangeFunc ?_
  intro fn hfn
  rw [show Fence.wide.round = none from rfl]
  obtain ⟨R, hR⟩ : ∃ R : LoopState → Option Code → Loop, R = fun st pe => { state := st, pending := pe, fn, tmps := a.tmps, params := ps, assign, body, defers := w.heap.size } := ⟨_, rfl⟩
  obtain ⟨X, hX⟩ : ∃ X, (w.alloc (.deferred (some []))).alloc (.loop (R .ready none)) = X := ⟨_, rfl⟩
  have hl0 : X.heap[w.heap.size + 1]? = some (.loop (R .ready none)) := by
    rw [← hX]; have := World.alloc_heap_new (w.alloc (.deferred (some []))) (.loop (R .ready none)); rwa [World.size_alloc] at this
  have hd0 : X.heap[w.heap.size]? = some (.deferred (some [])) := by
    rw [← hX]; exact (Below.heap_alloc _ _ _ (by simp)).trans (World.alloc_heap_new w _)
  have hi0 : I [] X := by rw [← hX]; exact hI.alloc _ (hI.alloc _ h0)
  have hb0 : Below w.heap.size w X := by rw [← hX]; exact ((Below.refl _ w).alloc (Nat.le_refl _) _).alloc (by simp) _
  refine ⟨w.heap.size + 1, [{ target := .collected w.heap.size, args := #[] }], X, { target := .fn (.func gf) lb, args := #[.func (.yield (w.heap.size + 1)) #[] #[]] }, X, gf,
    #[.func (.yield (w.heap.size + 1)) #[] #[]] ++ lb, X, ?_, ?_, ?_, ?_, fun _ => h1, ?_⟩
  · rw [← hX, hR]; exact run_enterLoop_outer _ _ _ _ _
  · simp only [resolve, hg]; simp [go_sem]
  · intro f' hf'; simp [Target.leads] at hf'; subst hf'; trivial
  · simp [invoke, go_sem, eg]
  have hX2 : X.heap.size = w.heap.size + 2 := by rw [← hX]; simp
  have lm : ∀ (r : Loop) es c, (Obj.loop r) ≠ .map es c := fun r es c e => by cases e
  have dm : ∀ d es c, (Obj.deferred d) ≠ .map es c := fun d es c e => by cases e
  refine (hseq (w.heap.size + 1)
    (fun pre W => I pre W ∧ W.heap[w.heap.size + 1]? = some (.loop (R .ready none)) ∧ W.heap[w.heap.size]? = some (.deferred (some [])))
    (fun pre W => ∃ c, Ix c pre W ∧ W.heap[w.heap.size + 1]? = some (.loop (R .done (some c))) ∧ W.heap[w.heap.size]? = some (.deferred (some [])))
    X hb0 (fun s A B h v => ⟨hIv s A B h.1 v, v.keeps h.2.1 (lm _), v.keeps h.2.2 (dm _)⟩)
    (fun s A B h v => by obtain ⟨c, p, q, r⟩ := h; exact ⟨c, hIxv c s A B p v, v.keeps q (lm _), v.keeps r (dm _)⟩)
    (fun s A D x o h hD hx => ⟨hI.putObj _ h.1 (by have := hb0.size; omega) hx rfl, (World.putObj_heap_other (fun e => by omega)).trans h.2.1, (World.putObj_heap_other (fun e => by omega)).trans h.2.2⟩)
    (fun s A D x o h hD hx => by obtain ⟨c, p, q, r⟩ := h; exact ⟨c, (hIx c).putObj _ p (by have := hb0.size; omega) hx rfl, (World.putObj_heap_other (fun e => by omega)).trans q, (World.putObj_heap_other (fun e => by omega)).trans r⟩) ?_ ⟨hi0, hl0, hd0⟩).mono ?_
  · rintro pre x W ⟨hi, hl, hd⟩ hlen
    have hy := run_yield (P := Try.prog) (args := encs x) hl (by rw [hR]; exact hps x)
    rw [hR] at hy
    refine ⟨fn, _, assign, body, hy, roundIn_of_wpIn hfn (hassign _ pre x W _ hi ?_)⟩
    clear hy
    intro a' Y hkf hkp hiY hax
    have hlY := hkf.same _ _ (by omega) hl rfl
    have hdY := hkf.same _ _ (Nat.le_refl _) hd rfl
    have hsY : w.heap.size + 1 < Y.heap.size := (Array.getElem?_eq_some_iff.1 hlY).1
    refine ⟨_, run_beginRound hlY (by rw [hR]), ?_⟩
    obtain ⟨Z, hZ⟩ : ∃ Z, Z = Y.putObj (w.heap.size + 1) (.loop { R .ready none with state := .busy }) := ⟨_, rfl⟩
    rw [← hZ]
    have hlZ : Z.heap[w.heap.size + 1]? = some (.loop { R .ready none with state := .busy }) := by rw [hZ]; exact World.putObj_heap_same hsY
    have hdZ : Z.heap[w.heap.size]? = some (.deferred (some [])) := by rw [hZ]; exact (World.putObj_heap_other (by omega)).trans hdY
    have hkZ : Kp W Z := by rw [hZ]; exact hKt hkp (hKb _ _ _ _ (by omega) hlY)
    have hiZ : I pre Z := by rw [hZ]; exact hI.putObj _ hiY (by omega) hlY rfl
    have haZ : Ax x a' Z := by rw [hZ]; exact (hAx x a').putObj (s := ()) _ hax (by omega) hlY rfl
    refine wpIn_mono (hbody _ pre x a' Z (by omega) hiZ haZ hlen) ?_
    have fin : ∀ (jump : Option Code) (V : World), KeepsFrom w.heap.size Z V →
        (Instr.endRound (w.heap.size + 1) jump).run Try.prog V = .ok (.bool jump.isNone) (V.putObj (w.heap.size + 1) (.loop (R (if jump.isNone then .ready else .done) jump))) ∧
        V.heap[w.heap.size + 1]? = some (.loop { R .ready none with state := .busy }) ∧
        (V.putObj (w.heap.size + 1) (.loop (R (if jump.isNone then .ready else .done) jump))).heap[w.heap.size + 1]? = some (.loop (R (if jump.isNone then .ready else .done) jump)) ∧
        (V.putObj (w.heap.size + 1) (.loop (R (if jump.isNone then .ready else .done) jump))).heap[w.heap.size]? = some (.deferred (some [])) := fun jump V hk => by
      have hlV := hk.same _ _ (by omega) hlZ rfl
      have := run_endRound (P := Try.prog) jump hlV
      rw [hR] at this ⊢
      exact ⟨this, by rw [hR] at hlV; exact hlV, World.putObj_heap_same (Array.getElem?_eq_some_iff.1 hlV).1, (World.putObj_heap_other (by omega)).trans (hk.same _ _ (Nat.le_refl _) hdZ rfl)⟩
    have out : ∀ (c : Code) (V : World), KeepsFrom w.heap.size Z V → Kp Z V → Ix c (pre ++ [x]) V → ∃ e V', (Instr.endRound (w.heap.size + 1) (some c)).run Try.prog V = .ok e V' ∧
        e = .bool false ∧ (∃ c, Ix c (pre ++ [x]) V' ∧ V'.heap[w.heap.size + 1]? = some (.loop (R .done (some c))) ∧ V'.heap[w.heap.size]? = some (.deferred (some []))) ∧ Kp W V' := fun c V hk hkp2 hix => by
      obtain ⟨hr, q1, q2, q3⟩ := fin (some c) V hk
      exact ⟨_, _, hr, rfl, ⟨c, (hIx _).putObj _ hix (by omega) q1 rfl, q2, q3⟩, hKt hkZ (hKt hkp2 (hKb _ _ _ _ (by omega) q1))⟩
    rintro e a3 V hp
    cases e with
    | normal =>
      obtain ⟨hk3, hkp3, hi3⟩ := hp
      obtain ⟨hr, q1, q2, q3⟩ := fin none V hk3
      exact ⟨_, _, hr, .inl ⟨rfl, ⟨hI.putObj _ hi3 (by omega) q1 rfl, q2, q3⟩, hKt hkZ (hKt hkp3 (hKb _ _ _ _ (by omega) q1))⟩⟩
    | ret =>
      obtain ⟨e, V', hr, rfl, p, q⟩ := out .ret V hp.1 hp.2.1 hp.2.2
      exact ⟨_, _, hr, .inr ⟨rfl, p, q⟩⟩
    | exit id =>
      obtain ⟨e, V', hr, rfl, p, q⟩ := out (.exit id) V hp.1 hp.2.1 hp.2.2
      exact ⟨_, _, hr, .inr ⟨rfl, p, q⟩⟩
    | goto t =>
      obtain ⟨e, V', hr, rfl, p, q⟩ := out (.goto t) V hp.1 hp.2.1 hp.2.2
      exact ⟨_, _, hr, .inr ⟨rfl, p, q⟩⟩
    | panic ch => exact hp.elim
    | outgrown => exact hp.elim
  · rintro e V ⟨⟨v, rfl⟩, ht, (⟨xs, hS, hi, hl, hk⟩ | ⟨pre, hSp, c, hi, hl, hk⟩)⟩
    · exact ⟨none, _, by have := run_endLoop (P := Try.prog) hl (by rw [hR]; simp); rw [hR] at this; exact this, hdone _ xs _ (Nat.le_refl _) hS (hI.putObj _ hi (by omega) hl rfl) (hT _ _ _ (by omega) ht) ((World.putObj_heap_other (by omega)).trans hk)⟩
    · exact ⟨some c, _, by have := run_endLoop (P := Try.prog) hl (by rw [hR]; simp); rw [hR] at this; exact this, hstop _ c pre _ (Nat.le_refl _) hSp ((hIx c).putObj _ hi (by omega) hl rfl) (hT _ _ _ (by omega) ht) ((World.putObj_heap_other (by omega)).trans hk)⟩
/-- What is said of the world from a fixed one on abides what turns no block of that one. -/
theorem ownFrom_via {β : Type} {K B : Nat} {Wb : World} (hB : Wb.heap.size ≤ B) : OwnFrom B (fun (_ : β) W => Via K Wb W) := fun _ X Y row hs hg hr => by
  obtain ⟨h1, ⟨es, c, q⟩, es2, c2, q2⟩ := hs
  have hK := (Array.getElem?_eq_some_iff.1 q).1
  have hne : ∀ k, k < Wb.heap.size → some k ≠ row := fun k hk e => by have := (hr k e.symm).1; omega
  refine ⟨⟨hg.os.trans h1.os, hg.tape.trans h1.tape, hg.output.trans h1.output, Nat.le_trans h1.size hg.size, fun k hk hkr => ?_⟩, ⟨es, c, q⟩, es2, c2, (hg.block K (Array.getElem?_eq_some_iff.1 q2).1 (hne K hK)).trans q2⟩
  exact (hg.block k (Nat.lt_of_lt_of_le hk h1.size) (hne k hk)).trans (h1.block k hk hkr)
theorem Via.from {K n₀ : Nat} {A B : World} (h : Via K A B) (hK : K < n₀) : KeepsFrom n₀ A B := KeepsFrom.of_grownBy h.1 (fun j e => by cases e; exact hK)
theorem Via.blk {K b n : Nat} {f : Nat → Int} {t : TypeId} {A B : World} (h : Via K A B) (k : Blk A b n f t) : Blk B b n f t := h.keeps k (fun es c e => by cases e)
theorem Via.box {K b : Nat} {v : Value} {t : TypeId} {A B : World} (h : Via K A B) (k : Boxed A b t v) : Boxed B b t v := h.keeps k (fun es c e => by cases e)
theorem Via.keeps2 {K b n : Nat} {f : Nat → Int} {t : TypeId} {A B : World} (h : Via K A B) (k : Blk A b n f t) : Keeps2 b A B := Keeps2.grown k.lt h.1 fun r e => by
  cases e
  obtain ⟨es, c, q⟩ := h.2.1
  refine ⟨fun e => ?_, fun cs z q2 => ?_⟩
  · subst e; rw [show A.heap[K]? = _ from k] at q; cases q
  · rw [q] at q2; cases q2
end Go.Proofs.Ytlboglcpbbnbcaa
