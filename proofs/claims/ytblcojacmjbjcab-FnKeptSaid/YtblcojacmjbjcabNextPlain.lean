/-
  Plain facts on all boards behind steps: how many there are, and whether all of them are over. No program stands in this text.
-/
import Derived.Test.YtblcojacmjbjcabStepPlain
import Derived.Test.YtblcojacmjbjcabPlainA
namespace Go.Proofs.Ytblcojacmjbjcab.Plain
theorem slid_full {F : Nat → Int} (hF : VdRow F) : ∀ k, k ≤ 4 → (slid F k).n = k → ∀ j, j < k → (slid F k).row j = F j
  | 0, _, _, j, h => by omega
  | k + 1, hk, hn, j, hj => by
    have ok := slid_ok hF k (by omega)
    have hle := ok.n_le
    have hs : slid F (k + 1) = slidStep (slid F k) (F k) := rfl
    rw [hs] at hn ⊢
    unfold slidStep at hn ⊢
    split at hn
    · omega
    · rename_i h0
      split at hn
      · simp only [] at hn; omega
      · rename_i h1
        rw [if_neg h0, if_neg h1]
        simp only [] at hn ⊢
        have hn' : (slid F k).n = k := by omega
        rw [hn']
        rcases (by omega : j < k ∨ j = k) with q | rfl
        · rw [upd_other _ _ (by omega)]; exact slid_full hF k (by omega) hn' j q
        · exact upd_same _ _ _
theorem emp_none {g : Nat → Int} : ∀ k, empN g k = 0 → ∀ j, j < k → g j ≠ 0
  | 0, _, j, h => by omega
  | k + 1, h, j, hj => by
    by_cases h0 : g k = 0
    · rw [(emp_yes h0).2] at h; omega
    · rw [(emp_no h0).2] at h
      rcases (by omega : j < k ∨ j = k) with q | rfl
      · exact emp_none k h j q
      · exact h0
/-- Behind a move there is an empty cell. -/
theorem move_room {f : Nat → Int} (hV : Vd f) (d : Nat) (hm : sameB (slideB f d) f = false) : 1 ≤ empN (slideB f d) 16 := by
  rcases Nat.eq_zero_or_pos (empN (slideB f d) 16) with h | h
  · exfalso
    have hne := emp_none 16 h
    have : sameB (slideB f d) f = true := sameB_iff.2 fun j hj => by
      have hl := lineOf_lt (d := d) hj
      have hp := placeOf_lt (d := d) hj
      have hr := lineF_vd hV d hl
      have ok := slid_ok hr 4 (Nat.le_refl _)
      have h3 : (slid (lineF f d (lineOf d j)) 4).row 3 ≠ 0 := by
        have := hne (pos d (lineOf d j) 3) (pos_lt hl (by omega))
        unfold slideB at this
        rw [lineOf_pos hl (by omega), placeOf_pos hl (by omega)] at this
        exact this
      have hn : (slid (lineF f d (lineOf d j)) 4).n = 4 := by
        have h1 := ok.n_le
        rcases (by omega : (slid (lineF f d (lineOf d j)) 4).n ≤ 3 ∨ (slid (lineF f d (lineOf d j)) 4).n = 4) with q | q
        · exact absurd (ok.rest 3 q) h3
        · exact q
      show (slid (lineF f d (lineOf d j)) 4).row (placeOf d j) = f j
      rw [slid_full hr 4 (Nat.le_refl _) hn _ hp]
      show f (pos d (lineOf d j) (placeOf d j)) = f j
      rw [pos_of hj]
    rw [this] at hm; cases hm
  · exact h
theorem step_none {f : Nat → Int} (hV : Vd f) (d : Nat) : (stepL f d).length = 0 ↔ isMv f d = false := by
  unfold isMv
  cases hm : sameB (slideB f d) f with
  | true => rw [step_same hm]; simp
  | false =>
    have := move_room hV d hm
    rw [step_move hm, stps_len]
    simp; omega
theorem all_none {f : Nat → Int} (hV : Vd f) : ∀ k, (allL f k).length = 0 ↔ (movL f k).length = 0
  | 0 => by simp [allL, movL]
  | k + 1 => by
    have ih := all_none hV k
    have h1 := step_none hV k
    unfold allL
    rw [List.length_append]
    cases hm : isMv f k with
    | true =>
      rw [mov_yes hm]
      have : (stepL f k).length ≠ 0 := fun e => by rw [h1] at e; rw [e] at hm; cases hm
      rw [List.length_append, List.length_singleton]
      omega
    | false =>
      rw [mov_no hm, ← ih]
      have := h1.2 hm
      omega
/-- Whether a board is trapped. -/
def trapR (f : Nat → Int) : Bool := decide (Vd f ∧ (allL f 4).length ≠ 0 ∧ ∀ x, x ∈ allL f 4 → (movL (doB f (fn x)) 4).length = 0)
theorem trapR_no {f : Nat → Int} (h : ¬ Vd f) : trapR f = false := by unfold trapR; rw [decide_eq_false_iff_not]; exact fun q => h q.1
theorem trap_not {f : Nat → Int} {k : Nat} {l : List Int} (h : (allL f 4)[k]? = some l) (h0 : ¬ (movL (doB f (fn l)) 4).length = 0) : trapR f = false := by
  unfold trapR; rw [decide_eq_false_iff_not]; exact fun q => h0 (q.2.2 l (List.mem_of_getElem? h))
theorem trap_all {f : Nat → Int} (hV : Vd f) (h : ∀ (j : Nat) x, (allL f 4)[j]? = some x → (movL (doB f (fn x)) 4).length = 0) : trapR f = decide (((allL f 4).length : Int) > 0) := by
  unfold trapR
  rw [Bool.eq_iff_iff, decide_eq_true_iff, decide_eq_true_iff]
  constructor
  · intro q; have := q.2.1; omega
  · intro q
    exact ⟨hV, by omega, fun x hx => by obtain ⟨j, hj⟩ := List.getElem?_of_mem hx; exact h j x hj⟩
theorem trap_over {f : Nat → Int} (hV : Vd f) (h : (movL f 4).length = 0) : trapR f = false := by
  unfold trapR; rw [decide_eq_false_iff_not]; exact fun q => q.2.1 ((all_none hV 4).2 h)
theorem trap_more {f : Nat → Int} (hV : Vd f) (hm : (movL f 4).length ≠ 0) (h : ∀ (j : Nat) x, (allL f 4)[j]? = some x → (movL (doB f (fn x)) 4).length = 0) : trapR f = true := by
  rw [trap_all hV h, decide_eq_true_iff]
  have : (allL f 4).length ≠ 0 := fun e => hm ((all_none hV 4).1 e)
  omega
/-- How many boards there are behind all steps. -/
noncomputable def cnxR (f : Nat → Int) : Int := if Vd f then (nextI f (allL f 4) (allL f 4).length).length else 0
theorem cnxR_yes {f : Nat → Int} (h : Vd f) : cnxR f = (nextI f (allL f 4) (allL f 4).length).length := by simp [cnxR, h]
theorem cnxR_no {f : Nat → Int} (h : ¬ Vd f) : cnxR f = 0 := by simp [cnxR, h]
end Go.Proofs.Ytblcojacmjbjcab.Plain
