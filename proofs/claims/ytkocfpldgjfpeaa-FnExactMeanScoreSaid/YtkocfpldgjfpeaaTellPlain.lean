/-
  Plain facts on what is told of the boards behind a move: chances and the room. No program stands in this text.
-/
import Derived.Test.YtkocfpldgjfpeaaMeanSteps
import Derived.Test.YtkocfpldgjfpeaaPlainA
set_option linter.unusedSimpArgs false
namespace Go.Proofs.Ytkocfpldgjfpeaa.Plain
/-- A board, a direction, and a slide that is a move. -/
def MvOk (f : Nat → Int) (d : Int) : Prop := SlideOk f d ∧ isMv f d.toNat = true
instance (f : Nat → Int) (d : Int) : Decidable (MvOk f d) := by unfold MvOk; infer_instance
theorem cnt_emp9 (f : Nat → Int) : ∀ k, cntF f k 0 = (empN f k : Int)
  | 0 => rfl
  | k + 1 => by
    have ih := cnt_emp9 f k
    show cntF f k 0 + (if f k = ((0 : Nat) : Int) then 1 else 0) = _
    unfold empN
    by_cases h : f k = 0
    · rw [if_pos (by rw [h]; rfl), if_pos h, ih]; omega
    · rw [if_neg (fun e => h (by rw [e]; rfl)), if_neg h, ih]; omega
def oneF (b : Bool) : Fc := (if b then 1 else 0, 1)
def oneN (b : Bool) : Nat := if b then 1 else 0
theorem oneN_le (b : Bool) : oneN b ≤ 1 := by cases b <;> decide
def uNext (g h : Nat → Int) : Nat := oneN (sameB h g)
def uOver (h : Nat → Int) : Nat := oneN (noMvB h)
def uRoom (h : Nat → Int) : Nat := (pairsR h + (empN h 16 : Int)).toNat
def uTile (c : Nat → Int) (t : Int) (h : Nat → Int) : Nat := oneN (decide (h (placeAt c) = t))
def scoB (h : Nat → Int) : Bool := decide (0 < slideS h 0 4 ∨ 0 < slideS h 1 4)
def uMerge (h : Nat → Int) : Nat := oneN (scoB h)
/-- A number that is told, as a fraction. -/
def numT (u : (Nat → Int) → Nat) (h : Nat → Int) : Fc := (u h, 1)
theorem pairs_bd (h : Nat → Int) : 0 ≤ pairsR h ∧ pairsR h ≤ 24 := by
  by_cases hv : Vd h
  · rw [pairsR_yes hv]; have := plines_bd h 4; omega
  · rw [pairsR_no hv]; omega
theorem uRoom_le (h : Nat → Int) : uRoom h ≤ 1000 := by
  unfold uRoom
  have := pairs_bd h
  have := empN_le h 16
  omega
theorem uRoom_int (h : Nat → Int) : ((uRoom h : Nat) : Int) = pairsR h + (empN h 16 : Int) := by
  unfold uRoom
  have := pairs_bd h
  omega
theorem den_num {u : (Nat → Int) → Nat} {M : Nat} {f : Nat → Int} (hM : 0 < M) (hM2 : M ≤ 1000000) (h : ∀ g, u g ≤ M) : Den 1 M (numT u) f :=
  num_den (c := u) hM (by omega) (fun p _ => ⟨rfl, h _⟩)
/-- What is told behind a move; nothing where there is none. -/
def mmF (T : (Nat → Int) → Fc) (f : Nat → Int) (d : Int) : Fc := if MvOk f d then mnF T (slideB f d.toNat) else (0, 0)
theorem mm_yes {T : (Nat → Int) → Fc} {f : Nat → Int} {d : Int} (h : MvOk f d) : mmF T f d = mnF T (slideB f d.toNat) := if_pos h
theorem mm_no {T : (Nat → Int) → Fc} {f : Nat → Int} {d : Int} (h : ¬ MvOk f d) : mmF T f d = (0, 0) := if_neg h
theorem same_comm (f g : Nat → Int) : sameB f g = sameB g f := by
  rw [Bool.eq_iff_iff, sameB_iff, sameB_iff]
  constructor <;> exact fun h j hj => (h j hj).symm
theorem sco_any {h : Nat → Int} (hV : Vd h) {d : Nat} (hd : d < 4) (hs : 0 < slideS h d 4) : scoB h = true := by
  unfold scoB
  rw [decide_eq_true_eq]
  have h1 := (score_mg hV d).1 hs
  rcases (by omega : d = 0 ∨ d = 1 ∨ d = 2 ∨ d = 3) with rfl | rfl | rfl | rfl
  · exact .inl hs
  · exact .inr hs
  · have e := merg_opp h (d := 0) (by omega)
    exact .inl ((score_mg hV 0).2 (by rw [← e]; exact h1))
  · have e := merg_opp h (d := 1) (by omega)
    exact .inr ((score_mg hV 1).2 (by rw [← e]; exact h1))
theorem sco_none {h : Nat → Int} (h0 : ¬ 0 < slideS h 0 4) (h1 : ¬ 0 < slideS h 1 4) : scoB h = false := by
  unfold scoB
  rw [decide_eq_false_iff_not]
  rintro (q | q)
  · exact h0 q
  · exact h1 q
end Go.Proofs.Ytkocfpldgjfpeaa.Plain
