/-
  What is needed beside rows and maps that one call owns. Nothing is proved here of the program's functions.
-/
import Derived.Test.YtfjpdopljmilpaaMapKit
import Derived.Test.YtfjpdopljmilpaaRowsKit
import Derived.Test.YtfjpdopljmilpaaPlainA
namespace Go.Proofs.Ytfjpdopljmilpaa.Plain
/-- The first form behind a slide. -/
noncomputable def ffs (f : Nat → Int) (d : Int) : List Int := cl 16 (fstF (slideB f d.toNat))
theorem movL_mem (f : Nat → Int) : ∀ n x, x ∈ movL f n → ∃ k : Nat, k < n ∧ x = (k : Int)
  | 0, x, h => by cases h
  | n + 1, x, h => by
    by_cases hm : isMv f n = true
    · rw [mov_yes hm] at h
      rcases List.mem_append.1 h with h | h
      · obtain ⟨k, hk, e⟩ := movL_mem f n x h; exact ⟨k, by omega, e⟩
      · obtain rfl : x = (n : Int) := by simpa using h
        exact ⟨n, by omega, rfl⟩
    · rw [mov_no (by simpa using hm)] at h
      obtain ⟨k, hk, e⟩ := movL_mem f n x h; exact ⟨k, by omega, e⟩
/-- What has been seen behind the first k of some slides, and which of these are told. -/
noncomputable def dm (f : Nat → Int) (M : List Int) : Nat → List (List Int) × List Int
  | 0 => ([], [])
  | k + 1 => match M[k]? with
    | none => dm f M k
    | some d => if ffs f d ∈ (dm f M k).1 then dm f M k else ((dm f M k).1 ++ [ffs f d], (dm f M k).2 ++ [d])
theorem dm_yes {f : Nat → Int} {M : List Int} {k : Nat} {d : Int} (h : M[k]? = some d) (hd : ffs f d ∈ (dm f M k).1) : dm f M (k + 1) = dm f M k := by simp only [dm, h]; rw [if_pos hd]
theorem dm_no {f : Nat → Int} {M : List Int} {k : Nat} {d : Int} (h : M[k]? = some d) (hd : ¬ ffs f d ∈ (dm f M k).1) : dm f M (k + 1) = ((dm f M k).1 ++ [ffs f d], (dm f M k).2 ++ [d]) := by simp only [dm, h]; rw [if_neg hd]
theorem dm_le (f : Nat → Int) (M : List Int) : ∀ k, (dm f M k).1.length ≤ k ∧ (dm f M k).2.length = (dm f M k).1.length
  | 0 => ⟨Nat.le_refl _, rfl⟩
  | k + 1 => by
    have := dm_le f M k
    unfold dm
    split
    · exact ⟨by omega, this.2⟩
    · split
      · exact ⟨by omega, this.2⟩
      · simp; omega
theorem dm_len (f : Nat → Int) (M : List Int) : ∀ k x, x ∈ (dm f M k).1 → x.length = 16
  | 0, x, h => by cases h
  | k + 1, x, h => by
    unfold dm at h
    split at h
    · exact dm_len f M k x h
    · split at h
      · exact dm_len f M k x h
      · rcases List.mem_append.1 h with h | h
        · exact dm_len f M k x h
        · obtain rfl : x = _ := by simpa using h
          exact cl_len _ _
/-- The same put in order. -/
noncomputable def di (f : Nat → Int) (M : List Int) : Nat → List (List Int)
  | 0 => []
  | k + 1 => match M[k]? with
    | none => di f M k
    | some d => insL (lt 16) (di f M k) (ffs f d)
theorem di_step {f : Nat → Int} {M : List Int} {k : Nat} {d : Int} (h : M[k]? = some d) : di f M (k + 1) = insL (lt 16) (di f M k) (ffs f d) := by simp only [di, h]
theorem di_mem (f : Nat → Int) (M : List Int) : ∀ k x, x ∈ di f M k ↔ x ∈ (dm f M k).1
  | 0, x => Iff.rfl
  | k + 1, x => by
    rcases h : M[k]? with _ | d
    · have e1 : di f M (k + 1) = di f M k := by simp [di, h]
      have e2 : dm f M (k + 1) = dm f M k := by simp [dm, h]
      rw [e1, e2]; exact di_mem f M k x
    · rw [di_step h, ins_mem, di_mem f M k x]
      by_cases hd : ffs f d ∈ (dm f M k).1
      · rw [dm_yes h hd]
        constructor
        · rintro (q | rfl)
          · exact q
          · exact hd
        · exact Or.inl
      · rw [dm_no h hd]; simp
theorem di_len (f : Nat → Int) (M : List Int) (k : Nat) : ∀ x, x ∈ di f M k → x.length = 16 := fun x hx => dm_len f M k x ((di_mem f M k x).1 hx)
theorem di_ss (f : Nat → Int) (M : List Int) : ∀ k, SS (lt 16) (di f M k)
  | 0 => List.Pairwise.nil
  | k + 1 => by
    rcases h : M[k]? with _ | d
    · have e1 : di f M (k + 1) = di f M k := by simp [di, h]
      rw [e1]; exact di_ss f M k
    · rw [di_step h]
      exact ins_ss (lt 16) (fun x y z h1 h2 => lt_trans h1 h2) _ _ (fun x hx h1 h2 => lt_total (di_len f M k x hx) (cl_len _ _) h1 h2) (di_ss f M k)
theorem di_le (f : Nat → Int) (M : List Int) : ∀ k, (di f M k).length ≤ k
  | 0 => Nat.le_refl _
  | k + 1 => by
    have := di_le f M k
    rcases h : M[k]? with _ | d
    · have e1 : di f M (k + 1) = di f M k := by simp [di, h]
      rw [e1]; omega
    · rw [di_step h, ins_len]; split <;> omega
/-- What stands in a list in order is found at its place. -/
theorem ins_found {α : Type} [DecidableEq α] (l : α → α → Bool) (hir : ∀ x, l x x = false) (b : α) : ∀ I : List α, SS l I → b ∈ I → I[plcL l b I]? = some b
  | [], _, h => by cases h
  | x :: xs, hs, h => by
    obtain ⟨h1, h2⟩ := List.pairwise_cons.1 hs
    unfold plcL
    by_cases hx : l x b = true
    · rw [if_pos hx, List.getElem?_cons_succ]
      rcases List.mem_cons.1 h with rfl | h
      · rw [hir] at hx; cases hx
      · exact ins_found l hir b xs h2 h
    · rw [if_neg hx]
      rcases List.mem_cons.1 h with rfl | h
      · rfl
      · exact absurd (h1 b h) hx
/-- More than before, just where it was not there. -/
theorem di_more {f : Nat → Int} {M : List Int} {k : Nat} {d : Int} (h : M[k]? = some d) :
    (ffs f d ∈ (dm f M k).1 → di f M (k + 1) = di f M k) ∧ (¬ ffs f d ∈ (dm f M k).1 → (di f M (k + 1)).length = (di f M k).length + 1) := by
  rw [di_step h]
  constructor
  · intro hd
    exact ins_same _ (ins_found (lt 16) (lt_irrefl 16) _ _ (di_ss f M k) ((di_mem f M k _).2 hd))
  · intro hd
    rw [ins_len, if_neg]
    intro e
    exact hd ((di_mem f M k _).1 (List.mem_of_getElem? e))
/-- What DistinctMoves returns. -/
noncomputable def dmR (f : Nat → Int) : List Int := if Vd f then (dm f (movL f 4) (movL f 4).length).2 else []
theorem dmR_yes {f : Nat → Int} (h : Vd f) : dmR f = (dm f (movL f 4) (movL f 4).length).2 := by simp [dmR, h]
theorem dmR_no {f : Nat → Int} (h : ¬ Vd f) : dmR f = [] := by simp [dmR, h]
theorem dmR_le (f : Nat → Int) : (dmR f).length ≤ 4 := by
  unfold dmR; split
  · have h1 := dm_le f (movL f 4) (movL f 4).length
    have h2 := movL_le f 4
    omega
  · exact Nat.zero_le _
end Go.Proofs.Ytfjpdopljmilpaa.Plain
namespace Go.Proofs.Ytfjpdopljmilpaa
open Go.RowKit Plain
open Go.Maps (Keyed)

theorem CAt.grown {w w' : World} {g n : Nat} {h : Nat → Int} {row : Option Nat} (r : CAt w g n h) (hg : w.grownBy w' row) (hne : some g ≠ row) : CAt w' g n h := by
  have hb := hg.block g r.1 hne
  exact ⟨Nat.lt_of_lt_of_le r.1 hg.size, fun j hj => (World.cell?_of_block (w := w) hb).trans (r.2 j hj)⟩
theorem CAt.of_ints {w : World} {b g cap : Nat} {xs : List Int} (ho : OwnsInts w b (.slice (some ⟨g, 0, none⟩) xs.length cap) xs) : CAt w g xs.length fun i => xs.getD i 0 := by
  unfold OwnsInts at ho
  refine ⟨(ho.lt g rfl).2, fun j hj => ?_⟩
  rw [ho.cellAt j (by omega), List.getElem?_map, List.getElem?_eq_getElem hj]
  simp [List.getD, List.getElem?_eq_getElem hj]
/-- A row and a map, a row and another row of other elements, a variable and a map, lie in blocks of their own. -/
theorem own_ne_map {w : World} {b : Nat} {e : TypeId} {size n mb : Nat} {v : Value} {xs : List Value} {es : Array MapEntry} {c : Nat} (h : w.ownsRow b e size v n xs) (hm : w.heap[mb]? = some (.map es c)) : v.ownBlock ≠ some mb := by
  intro hv
  rcases h.2 with ⟨rfl, _⟩ | ⟨g, cap, cur, rfl, _, hg, _⟩
  · simp [Value.ownBlock] at hv
  · simp only [Value.ownBlock, Option.some.injEq] at hv
    subst hv; rw [hg] at hm; cases hm
theorem own_ne_own {w : World} {b b' : Nat} {e e' : TypeId} {s s' n n' : Nat} {v v' : Value} {xs xs' : List Value} (h : w.ownsRow b e s v n xs) (h' : w.ownsRow b' e' s' v' n' xs') (he : e ≠ e') : v.ownBlock = none ∨ v.ownBlock ≠ v'.ownBlock := by
  rcases h.2 with ⟨rfl, _⟩ | ⟨g, cap, cur, rfl, _, hg, _⟩
  · exact Or.inl rfl
  · refine Or.inr fun hv => ?_
    rcases h'.2 with ⟨rfl, _⟩ | ⟨g', cap', cur', rfl, _, hg', _⟩
    · simp [Value.ownBlock] at hv
    · simp only [Value.ownBlock, Option.some.injEq] at hv
      subst hv; rw [hg] at hg'; cases hg'; exact he rfl
theorem own_ne_blk {w : World} {b : Nat} {e t : TypeId} {s n c m : Nat} {v : Value} {xs : List Value} {f : Nat → Int} (h : w.ownsRow b e s v n xs) (k : Blk w c m f t) (he : e ≠ t) : v.ownBlock ≠ some c := by
  intro hv
  rcases h.2 with ⟨rfl, _⟩ | ⟨g, cap, cur, rfl, _, hg, _⟩
  · simp [Value.ownBlock] at hv
  · simp only [Value.ownBlock, Option.some.injEq] at hv
    subst hv; unfold Blk at k; rw [hg] at k; cases k; exact he rfl
theorem at_ne_map {w : World} {g n mb : Nat} {h : Nat → Int} {es : Array MapEntry} {c : Nat} (r : CAt w g n h) (hn : 0 < n) (hm : w.heap[mb]? = some (.map es c)) : g ≠ mb := by
  rintro rfl
  have := r.2 0 hn
  simp [World.cell?, hm] at this
theorem blk_ne_map {w : World} {b n mb : Nat} {f : Nat → Int} {t : TypeId} {es : Array MapEntry} {c : Nat} (k : Blk w b n f t) (hm : w.heap[mb]? = some (.map es c)) : b ≠ mb := by
  rintro rfl
  unfold Blk at k; rw [k] at hm; cases hm
theorem Seen.map {P : Program} {k e : TypeId} {m : Nat} {w : World} {b n : Nat} {S : List (List Int)} (h : Seen P k e m w b n S) : ∃ es c, w.heap[b]? = some (.map es c) := by
  obtain ⟨D, ⟨es, c, hh, _⟩, _⟩ := h; exact ⟨es, c, hh⟩
theorem Seen.mono {P : Program} {k e : TypeId} {m : Nat} {w : World} {b n n' : Nat} {S : List (List Int)} (h : Seen P k e m w b n S) (hn : n ≤ n') : Seen P k e m w b n' S := by
  obtain ⟨D, h1, h2⟩ := h; exact ⟨D, h1.mono hn, h2⟩
theorem wf_small {x : Int} (h0 : 0 ≤ x) (h1 : x ≤ 17) : (Lit.int .i64 x).wf = true := WalkArith.wf_i64 (by omega)
theorem wf_vd {f : Nat → Int} (h : Vd f) : Wf 16 f := fun i hi => wf_small (h i hi).1 (h i hi).2
theorem wf_row {f : Nat → Int} (h : VdRow f) : Wf 4 f := fun i hi => wf_small (h i hi).1 (h i hi).2
theorem zeroBool (w : World) : (zeroValue 4).run Try.prog w = .ok (.bool false) w := by kernel_rfl
/-- 'm[k]' at the operation, the answer known. -/
theorem wpList_look_is {P : Program} (w : World) {ops : Array Oper} {rest : List Oper} {o : Oper} {a : Act} {Q : Exit → Act → World → Prop}
    (hg : o.guard = none) (m x : Operand) (t : TypeId) (hop : o.op = Op.lookup t m x false) (k e : TypeId) (K : Keyed P k) (ht : P.underlying t = some (.map k e)) (he : P.underlying e = some .bool)
    (hz : (zeroValue e).run P w = .ok (.bool false) w) (b n c : Nat) (S : List (List Int)) (f : Nat → Int) (r : Bool) (hr : decide (cl c f ∈ S) = r) (hm : a.eval m = .map (some b)) (hs : Seen P k e c w b n S) (hx : a.eval x = .agg (mk c f))
    (hkey : ∃ kl, keyOf P k (.agg (mk c f)) = some kl) (hK : wpList P ops Q rest (a.put o.dst (.bool r)) w) : wpList P ops Q (o :: rest) a w := by
  subst hr
  exact wpList_look_seen w hg m x t hop k e K ht he hz b n c S f hm hs hx hkey hK
end Go.Proofs.Ytfjpdopljmilpaa
