/-
  A loop over the placements on a valid board, and the rows of placements that such a loop fills. Nothing is proved here of the program's functions.
-/
import Derived.Test.YtlboglcpbbnbcabReplies
import Derived.Maps.OwnIn
namespace Go.Proofs.Ytlboglcpbbnbcab
open Go.RowKit Go.Shelf Plain
set_option linter.unusedVariables false
set_option linter.unusedSimpArgs false

theorem over_replies {n : Nat} (h2 : 2 ≤ n) {f : Nat → Int} (hV : Vd f) {B : Nat} {g : Operand} {ps : Array Tmp} {assign body : Code} {Q : Exit → Act → World → Prop} {a : Act} {w : World}
    (hg : a.eval g = .func (.func 152) #[] #[.pointer (some ⟨B, 0, none⟩)]) (hps : ps.size = 2) (hB : Blk w B 16 f 29)
    (I : List (Pl f) → World → Prop) (Ix : Code → List (Pl f) → World → Prop) (hI : OwnFrom w.heap.size I) (hIx : ∀ c, OwnFrom w.heap.size (Ix c)) (h0 : I [] w)
    (X : Pl f → Nat → Nat → World → Prop) (hX : ∀ x b c, OwnFrom w.heap.size (fun (_ : Unit) W => X x b c W)) (A : Pl f → Nat → Nat → Act)
    (hassign : ∀ (l : Nat) (pre : List (Pl f)) (x : Pl f) (W : World) (K : Act → World → Prop), I pre W → (∀ b c W', KeepsFrom w.heap.size W W' → Keeps2 B W W' → I pre W' → X x b c W' → K (A x b c) W') →
      assign.wpIn (Fence.wide.inRound l) (n - 1 - 1) Try.prog (Exit.then K (fun _ _ _ => False)) { tmps := (ps.zip #[.agg (mk 3 (plF x.1)), .agg (mk 16 (plB f x.1))]).foldl (fun t (p, v) => t.setIfInBounds p v) a.tmps, defers := [] } W)
    (hbody : ∀ (l : Nat) (pre : List (Pl f)) (x : Pl f) (b c : Nat) (W : World), w.heap.size ≤ l → (∃ r, W.heap[l]? = some (.loop r)) → I pre W → X x b c W → pre.length < empN f 16 * 2 →
      body.wpIn (Fence.wide.inRound l) (n - 1 - 1) Try.prog (ownPostG w.heap.size (Keeps2 B) I Ix (pre ++ [x]) W) (A x b c) W)
    (hdone : ∀ (D : Nat) (xs : List (Pl f)) (W : World), w.heap.size ≤ D → xs.map (·.1) = plA f → I xs W → W.heap[D]? = some (.deferred (some [])) → Q .normal { a with defers := { target := .collected D, args := #[] } :: a.defers } W)
    (hstop : ∀ (D : Nat) (c : Code) (pre : List (Pl f)) (W : World), w.heap.size ≤ D → Ix c pre W → W.heap[D]? = some (.deferred (some [])) → c.wpIn Fence.wide n Try.prog Q { a with defers := { target := .collected D, args := #[] } :: a.defers } W) :
    (Code.rangeFunc g ps assign body).wpIn Fence.wide n Try.prog Q a w := by
  refine wpIn_rangeFunc_ownH (F := Fence.wide) rfl (by omega) hg trivial replies_enters (replies_stops (n - 1) B f (by omega) hV w hB.lt hB) (fun h k => h.trans k) (Keeps2.book hB.lt) (Below.refl _ _) (fun x => by rw [hps]; rfl)
    I Ix hI hIx h0 (fun x a' W => ∃ b c, X x b c W ∧ a' = A x b c) ?_ ?_ ?_ hdone (fun D c pre W hD _ hi hK => hstop D c pre W hD hi hK)
  · rintro x a' s W W' row ⟨b, c, h, e⟩ hg' hr
    exact ⟨b, c, hX x b c () W W' row h hg' hr, e⟩
  · intro l pre x W K hi hK
    exact hassign l pre x W K hi fun b c W' k1 k2 k3 k4 => hK _ W' k1 k2 k3 ⟨b, c, k4, rfl⟩
  · rintro l pre x a' W hl hr hi ⟨b, c, hx, rfl⟩ hlt
    exact hbody l pre x b c W hl hr hi hx hlt
/-- The same, where the round that stops is told how far the loop has come. -/
theorem over_repliesP {n : Nat} (h2 : 2 ≤ n) {f : Nat → Int} (hV : Vd f) {B : Nat} {g : Operand} {ps : Array Tmp} {assign body : Code} {Q : Exit → Act → World → Prop} {a : Act} {w : World}
    (hg : a.eval g = .func (.func 152) #[] #[.pointer (some ⟨B, 0, none⟩)]) (hps : ps.size = 2) (hB : Blk w B 16 f 29)
    (I : List (Pl f) → World → Prop) (Ix : Code → List (Pl f) → World → Prop) (hI : OwnFrom w.heap.size I) (hIx : ∀ c, OwnFrom w.heap.size (Ix c)) (h0 : I [] w)
    (X : Pl f → Nat → Nat → World → Prop) (hX : ∀ x b c, OwnFrom w.heap.size (fun (_ : Unit) W => X x b c W)) (A : Pl f → Nat → Nat → Act)
    (hassign : ∀ (l : Nat) (pre : List (Pl f)) (x : Pl f) (W : World) (K : Act → World → Prop), I pre W → (∀ b c W', KeepsFrom w.heap.size W W' → Keeps2 B W W' → I pre W' → X x b c W' → K (A x b c) W') →
      assign.wpIn (Fence.wide.inRound l) (n - 1 - 1) Try.prog (Exit.then K (fun _ _ _ => False)) { tmps := (ps.zip #[.agg (mk 3 (plF x.1)), .agg (mk 16 (plB f x.1))]).foldl (fun t (p, v) => t.setIfInBounds p v) a.tmps, defers := [] } W)
    (hbody : ∀ (l : Nat) (pre : List (Pl f)) (x : Pl f) (b c : Nat) (W : World), w.heap.size ≤ l → (∃ r, W.heap[l]? = some (.loop r)) → I pre W → X x b c W → pre.length < empN f 16 * 2 →
      body.wpIn (Fence.wide.inRound l) (n - 1 - 1) Try.prog (ownPostG w.heap.size (Keeps2 B) I Ix (pre ++ [x]) W) (A x b c) W)
    (hdone : ∀ (D : Nat) (xs : List (Pl f)) (W : World), w.heap.size ≤ D → xs.map (·.1) = plA f → I xs W → W.heap[D]? = some (.deferred (some [])) → Q .normal { a with defers := { target := .collected D, args := #[] } :: a.defers } W)
    (hstop : ∀ (D : Nat) (c : Code) (pre : List (Pl f)) (W : World), w.heap.size ≤ D → (∃ M, plA f = pre.map (·.1) ++ M) → Ix c pre W → W.heap[D]? = some (.deferred (some [])) → c.wpIn Fence.wide n Try.prog Q { a with defers := { target := .collected D, args := #[] } :: a.defers } W) :
    (Code.rangeFunc g ps assign body).wpIn Fence.wide n Try.prog Q a w := by
  refine wpIn_rangeFunc_ownH (F := Fence.wide) rfl (by omega) hg trivial replies_enters (replies_stops (n - 1) B f (by omega) hV w hB.lt hB) (fun h k => h.trans k) (Keeps2.book hB.lt) (Below.refl _ _) (fun x => by rw [hps]; rfl)
    I Ix hI hIx h0 (fun x a' W => ∃ b c, X x b c W ∧ a' = A x b c) ?_ ?_ ?_ hdone (fun D c pre W hD hp hi hK => hstop D c pre W hD hp hi hK)
  · rintro x a' s W W' row ⟨b, c, h, e⟩ hg' hr
    exact ⟨b, c, hX x b c () W W' row h hg' hr, e⟩
  · intro l pre x W K hi hK
    exact hassign l pre x W K hi fun b c W' k1 k2 k3 k4 => hK _ W' k1 k2 k3 ⟨b, c, k4, rfl⟩
  · rintro l pre x a' W hl hr hi ⟨b, c, hx, rfl⟩ hlt
    exact hbody l pre x b c W hl hr hi hx hlt
theorem blk_own {β : Type} (b n : Nat) (f : Nat → Int) (t : TypeId) : Own (fun (_ : β) W => Blk W b n f t) := fun s X Y row hs hg hrow =>
  hs.grown hg (fun e => by obtain ⟨o, ho, hc⟩ := hrow b e.symm; rw [show X.heap[b]? = _ from hs] at ho; cases ho; cases hc)
/-- A row's block is not a block of another type. -/
theorem own_off {w : World} {base size n : Nat} {e : TypeId} {v : Value} {xs : List Value} (h : w.ownsRow base e size v n xs) {b m : Nat} {f : Nat → Int} {t : TypeId} (hb : Blk w b m f t) (he : e ≠ t) : some b ≠ v.ownBlock := by
  intro hv
  rcases h.2 with ⟨rfl, _⟩ | ⟨g, cap, cur, rfl, _, hg, _⟩
  · simp [Value.ownBlock] at hv
  · simp only [Value.ownBlock, Option.some.injEq] at hv
    subst hv
    rw [show w.heap[b]? = _ from hb] at hg
    cases hg
    exact he rfl
/-- A row of another type than cells may grow: an iterator over placements is kept. -/
theorem keeps2_row {B : Nat} {W W1 : World} {base size n m : Nat} {e : TypeId} {v : Value} {xs : List Value} {f : Nat → Int} {t : TypeId} (hB : Blk W B m f t) (h : W.ownsRow base e size v n xs) (he : e ≠ t) (h2 : e ≠ 61) (hg : W.grownBy W1 v.ownBlock) : Keeps2 B W W1 :=
  Keeps2.grown hB.lt hg fun r hr => by
    rcases h.2 with ⟨rfl, _⟩ | ⟨g, cap, cur, rfl, _, hgb, _⟩
    · simp [Value.ownBlock] at hr
    · simp only [Value.ownBlock, Option.some.injEq] at hr
      subst hr
      refine ⟨fun q => ?_, fun cs z q => ?_⟩
      · subst q; rw [show W.heap[g]? = _ from hB] at hgb; cases hgb; exact he rfl
      · rw [hgb] at q; cases q; exact h2 rfl
/-- The rows that such loops fill: a box holds a slice that owns them. -/
def HoldsP (f : Nat → Int) (n₀ Bx : Nat) (F : List (Pl f) → List (Nat × Nat)) (pre : List (Pl f)) (W : World) : Prop :=
  ∃ v, Boxed W Bx 73 v ∧ W.ownsRow n₀ 70 3 v (F pre).length ((plL (F pre)).flatten.map (Value.int .i64)) ∧ ∃ g cap, v = .slice (some ⟨g, 0, none⟩) (F pre).length cap
theorem holdsP_own (f : Nat → Int) (n₀ Bx : Nat) (F : List (Pl f) → List (Nat × Nat)) : Own (HoldsP f n₀ Bx F) :=
  holdsRow_own n₀ Bx 73 70 3 (fun pre => (F pre).length) (fun pre => (plL (F pre)).flatten.map (Value.int .i64)) (fun pre v => ∃ g cap, v = .slice (some ⟨g, 0, none⟩) (F pre).length cap)
theorem box_low {W W' : World} {B : Nat} {t : TypeId} {v : Value} (h : Boxed W B t v) (hb : Below W.heap.size W W') : Boxed W' B t v := (hb.block B h.lt).trans h
def vals {f : Nat → Int} (pre : List (Pl f)) : List (Nat × Nat) := pre.map (·.1)
theorem vals_snoc {f : Nat → Int} (pre : List (Pl f)) (x : Pl f) : vals (pre ++ [x]) = vals pre ++ [x.1] := by simp [vals]
theorem vals_len {f : Nat → Int} (pre : List (Pl f)) : (vals pre).length = pre.length := by simp [vals]
theorem plR_all (f : Nat → Int) : AllL 3 (plR f) := fun x hx => by
  unfold plR at hx; split at hx
  · exact pl_all _ x hx
  · cases hx
theorem ddR_all (f : Nat → Int) : AllL 3 (ddR f) := fun x hx => by
  unfold ddR at hx; split at hx
  · exact pl_all _ x hx
  · cases hx
theorem plR_le (f : Nat → Int) : (plR f).length ≤ 32 := by
  unfold plR; split
  · rw [plL_len]; exact plA_le f
  · simp
theorem ddR_le (f : Nat → Int) : (ddR f).length ≤ 32 := by
  unfold ddR; split
  · rw [plL_len]; exact Nat.le_trans (ddL_le f _) (plA_le f)
  · simp
theorem pl_snoc_flat (L : List (Nat × Nat)) (p : Nat × Nat) : (plL L).flatten.map (Value.int .i64) ++ (mk 3 (plF p)).toList = (plL (L ++ [p])).flatten.map (Value.int .i64) := by
  rw [plL_snoc, List.flatten_append, List.map_append, List.flatten_singleton, mk_cl]
theorem buildInA {F : Fence} {n : Nat} {w : World} {ops : Array Oper} {rest : List Oper} {o : Oper} {a : Act} {Q : Exit → Act → World → Prop} {f : Nat → Int} (x : Operand) (hg : o.guard = none) (ho : o.op = .buildSlice 73 1 #[(0, x)]) (hx : a.eval x = .agg (mk 3 f))
    (h : wpListIn F n Try.prog ops Q rest (a.put o.dst (.slice (some ⟨w.heap.size, 0, none⟩) 1 1)) (w.alloc (.cells (mk 3 f) 70))) : wpListIn F n Try.prog ops Q (o :: rest) a w := by
  obtain ⟨i0, hi, hz0, hz1, hz2⟩ := info_parts infoA
  refine wpListIn_exec hg (fun c e => by rw [ho] at e; cases e) (by simp [Oper.about, ho]) ?_ h
  have e : (Array.map (fun (p : Nat × Operand) => (p.1, a.eval p.2)) #[(0, x)]).toList = [(0, .agg (mk 3 f))] := by simp [hx]
  have hr := run_buildSlice (P := Try.prog) w 73 70 1 (Array.map (fun (p : Nat × Operand) => (p.1, a.eval p.2)) #[(0, x)]) (mk 3 f) i0 _ Try.underlying73 hi hz0 (by rw [hz1]; decide) (by rw [hz1]; decide) (by
    rw [hz1, e]
    exact fill_one f _ (by simp))
  unfold execOp
  simp only [ho, Sem.run_bind]
  rw [hr]
  rfl
theorem appInA {F : Fence} {n : Nat} {w : World} {ops : Array Oper} {rest : List Oper} {o : Oper} {a : Act} {Q : Exit → Act → World → Prop} (hgd : o.guard = none) (s x : Operand)
    (ho : o.op = .call { callee := .builtin .append, args := #[s, x], argTypes := #[73, 73] }) (base : Nat)
    {v : Value} {k : Nat} {xs : List Value} (hs : a.eval s = v) (hown : w.ownsRow base 70 3 v k xs) (b : Nat) (f : Nat → Int) (hx : a.eval x = .slice (some ⟨b, 0, none⟩) 1 1) (hb : Blk w b 3 f 70)
    (hk : k ≤ 64) (hbase : base ≤ w.heap.size)
    (h : ∀ v' w', w'.ownsRow base 70 3 v' (k + 1) (xs ++ (mk 3 f).toList) → w.grownBy w' v.ownBlock → (v'.ownBlock = v.ownBlock ∨ v'.ownBlock = some w.heap.size) → wpListIn F n Try.prog ops Q rest (a.put o.dst v') w') :
    wpListIn F n Try.prog ops Q (o :: rest) a w := by
  obtain ⟨i0, hi, hz0, hz1, hz2⟩ := info_parts infoA
  exact wpListIn_append_own_at (P := Try.prog) w hgd s x 73 ho base 70 i0 _ 3 24 Try.underlying73 hi hz0 hz1 hz2 rfl (by decide) v k xs hs hown ⟨b, 0, none⟩ 1 1 (mk 3 f).toList hx (by rw [mk_len])
    (fun j u hj => by
      have := hb.at.range 0 3 (by omega) j u (by simpa using hj)
      unfold Addr.add
      by_cases h0 : j = 0
      · subst h0; simpa using this
      · simpa [h0] using this)
    (fun u hu => by obtain ⟨i, _, rfl⟩ := mk_mem (by simpa using hu); rfl) (by unfold maxLen; omega) (by omega) hbase (fun v' w' h1 h2 _ h4 => h v' w' h1 h2 h4)
end Go.Proofs.Ytlboglcpbbnbcab
