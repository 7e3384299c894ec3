/-
  Plain facts on the boards before a board: how many there are, by which sides, and how many tiles they have. No program stands in this text.
-/
import Derived.Test.YtmcmpedmgibmkabGreatRbPlain
import Derived.Test.YtmcmpedmgibmkabGreatPlainA
namespace Go.Proofs.YtmcmpedmgibmkabGreat.Plain
/-- The rows before the line i of a board, seen from the side d. -/
noncomputable def lnR (f : Nat → Int) (d i : Nat) : List (List Int) := rbR (lineF f d i)
theorem lnR_15 (f : Nat → Int) (d i : Nat) : (lnR f d i).length ≤ 15 := rbR_15 _
theorem lnR_all (f : Nat → Int) (d i : Nat) : ∀ x, x ∈ lnR f d i → x.length = 4 := rbR_all _
/-- The product of the numbers of rows before the first lines. -/
noncomputable def cntP (f : Nat → Int) (d : Nat) : Nat → Nat
  | 0 => 1
  | i + 1 => cntP f d i * (lnR f d i).length
theorem cntP_le (f : Nat → Int) (d : Nat) : ∀ i, cntP f d i ≤ 15 ^ i
  | 0 => Nat.le_refl _
  | i + 1 => by unfold cntP; rw [Nat.pow_succ]; exact Nat.mul_le_mul (cntP_le f d i) (lnR_15 f d i)
theorem pow15 {i : Nat} (h : i ≤ 4) : 15 ^ i ≤ 50625 := by
  have := Nat.pow_le_pow_right (n := 15) (by omega) h
  simpa using this
theorem cntP_bd (f : Nat → Int) (d : Nat) {i : Nat} (h : i ≤ 4) : cntP f d i ≤ 50625 := Nat.le_trans (cntP_le f d i) (pow15 h)
/-- How many boards are before a board. -/
noncomputable def cntB (f : Nat → Int) (d : Nat) : Int := if isMv f d then (cntP f d 4 : Int) else (cntP f d 4 : Int) - 1
theorem cntB_yes {f : Nat → Int} {d : Nat} (h : isMv f d = true) : cntB f d = (cntP f d 4 : Int) := by simp [cntB, h]
theorem cntB_no {f : Nat → Int} {d : Nat} (h : isMv f d = false) : cntB f d = (cntP f d 4 : Int) - 1 := by simp [cntB, h]
theorem cntB_bd (f : Nat → Int) (d : Nat) : -1 ≤ cntB f d ∧ cntB f d ≤ 50625 := by
  have := cntP_bd f d (Nat.le_refl 4)
  unfold cntB; split <;> omega
/-- What CountBefore returns. -/
noncomputable def cbR (f : Nat → Int) (d : Int) : Int := if SlideOk f d then cntB f d.toNat else 0
theorem cbR_yes {f : Nat → Int} {d : Int} (h : SlideOk f d) : cbR f d = cntB f d.toNat := by simp [cbR, h]
theorem cbR_no {f : Nat → Int} {d : Int} (h : ¬ SlideOk f d) : cbR f d = 0 := by simp [cbR, h]
theorem cbR_nat {f : Nat → Int} {d : Nat} (h : Vd f) (hd : d < 4) : cbR f (d : Int) = cntB f d := by rw [cbR_yes ⟨h, by omega, by omega⟩, Int.toNat_natCast]
theorem cbO_nat {f : Nat → Int} {d : Nat} (h : Vd f) (hd : d < 4) : slideRO f (d : Int) = true := (slide_yes ⟨h, by omega, by omega⟩).1
/-- What WaysInto returns. -/
noncomputable def wyR (f : Nat → Int) : Nat → Int := if Vd f then fun d => cntB f d else fun _ => 0
theorem wyR_yes {f : Nat → Int} (h : Vd f) : wyR f = fun d => cntB f d := by simp [wyR, h]
theorem wyR_no {f : Nat → Int} (h : ¬ Vd f) : wyR f = fun _ => 0 := by simp [wyR, h]
/-- The sides, below one, whose number of ways is above 0. -/
def sdW (v : Nat → Int) : Nat → List Int
  | 0 => []
  | d + 1 => if 0 < v d then sdW v d ++ [(d : Int)] else sdW v d
theorem sdW_yes {v : Nat → Int} {d : Nat} (h : 0 < v d) : sdW v (d + 1) = sdW v d ++ [(d : Int)] := by simp [sdW, h]
theorem sdW_no {v : Nat → Int} {d : Nat} (h : ¬ 0 < v d) : sdW v (d + 1) = sdW v d := by simp [sdW, h]
theorem sdW_len (v : Nat → Int) : ∀ d, (sdW v d).length ≤ d
  | 0 => Nat.le_refl _
  | d + 1 => by have := sdW_len v d; unfold sdW; split <;> simp <;> omega
theorem sdW_zero : ∀ d, sdW (fun _ => 0) d = []
  | 0 => rfl
  | d + 1 => by rw [sdW_no (by simp)]; exact sdW_zero d
theorem sdW_mem (v : Nat → Int) (x : Int) : ∀ d, x ∈ sdW v d ↔ ∃ k, k < d ∧ x = (k : Nat) ∧ 0 < v k
  | 0 => by simp [sdW]
  | d + 1 => by
    by_cases h : 0 < v d
    · rw [sdW_yes h, List.mem_append, sdW_mem v x d, List.mem_singleton]
      constructor
      · rintro (⟨k, h1, h2, h3⟩ | rfl)
        · exact ⟨k, by omega, h2, h3⟩
        · exact ⟨d, by omega, rfl, h⟩
      · rintro ⟨k, h1, h2, h3⟩
        rcases (by omega : k < d ∨ k = d) with q | rfl
        · exact Or.inl ⟨k, q, h2, h3⟩
        · exact Or.inr h2
    · rw [sdW_no h, sdW_mem v x d]
      constructor
      · rintro ⟨k, h1, h2, h3⟩; exact ⟨k, by omega, h2, h3⟩
      · rintro ⟨k, h1, h2, h3⟩
        rcases (by omega : k < d ∨ k = d) with q | rfl
        · exact ⟨k, q, h2, h3⟩
        · exact absurd h3 h
/-- What SidesInto returns. -/
noncomputable def siR (f : Nat → Int) : List Int := sdW (wyR f) 4
theorem siR_yes {f : Nat → Int} (h : Vd f) : siR f = sdW (fun d => cntB f d) 4 := by rw [siR, wyR_yes h]
theorem siR_no {f : Nat → Int} (h : ¬ Vd f) : siR f = [] := by rw [siR, wyR_no h]; exact sdW_zero 4
theorem siR_le (f : Nat → Int) : (siR f).length ≤ 4 := sdW_len _ 4
/-- What IsMade returns. -/
noncomputable def mdR (f : Nat → Int) : Bool := decide (0 < (siR f).length)
theorem mdR_int (f : Nat → Int) : decide (0 < (siR f).length) = mdR f := rfl
theorem mdR_yes {f : Nat → Int} (h : Vd f) : decide (0 < (sdW (fun d => cntB f d) 4).length) = mdR f := by rw [mdR, siR_yes h]
theorem mdR_no {f : Nat → Int} (h : ¬ Vd f) : mdR f = false := by rw [mdR, siR_no h]; rfl
/-- f, but 0 at a place. -/
theorem upd_vd {f : Nat → Int} (h : Vd f) (k : Nat) : Vd (upd f k 0) := fun i hi => by
  unfold upd; split
  · omega
  · exact h i hi
/-- A board arises by the cell k. -/
noncomputable def arO (f : Nat → Int) (k : Nat) : Bool := decide (1 ≤ f k ∧ f k ≤ 2 ∧ mdR (upd f k 0) = true)
/-- The cells, among the first k ones, that are told. -/
def ceL (o : Nat → Bool) : Nat → List Int
  | 0 => []
  | k + 1 => if o k then ceL o k ++ [((k / 4 : Nat) : Int), ((k % 4 : Nat) : Int)] else ceL o k
def ceN (o : Nat → Bool) : Nat → Nat
  | 0 => 0
  | k + 1 => if o k then ceN o k + 1 else ceN o k
theorem ce_yes {o : Nat → Bool} {k : Nat} (h : o k = true) : ceL o (k + 1) = ceL o k ++ [((k / 4 : Nat) : Int), ((k % 4 : Nat) : Int)] ∧ ceN o (k + 1) = ceN o k + 1 := by simp [ceL, ceN, h]
theorem ce_no {o : Nat → Bool} {k : Nat} (h : o k = false) : ceL o (k + 1) = ceL o k ∧ ceN o (k + 1) = ceN o k := by simp [ceL, ceN, h]
theorem ceN_le (o : Nat → Bool) (k : Nat) : ceN o k ≤ k := by
  induction k with
  | zero => exact Nat.le_refl _
  | succ k ih => unfold ceN; split <;> omega
theorem ce_len (o : Nat → Bool) (k : Nat) : (ceL o k).length = ceN o k * 2 := by
  induction k with
  | zero => rfl
  | succ k ih => unfold ceL ceN; split <;> simp [ih]; omega
theorem ce_congr {o p : Nat → Bool} {k : Nat} (h : ∀ j, j < k → o j = p j) : ceL o k = ceL p k ∧ ceN o k = ceN p k := by
  induction k with
  | zero => exact ⟨rfl, rfl⟩
  | succ k ih =>
    obtain ⟨a, b⟩ := ih fun j hj => h j (by omega)
    unfold ceL ceN; rw [a, b, h k (by omega)]; exact ⟨rfl, rfl⟩
theorem arO_no {f : Nat → Int} {k : Nat} (h : ¬ (1 ≤ f k ∧ f k ≤ 2)) : arO f k = false := by
  unfold arO; rw [decide_eq_false_iff_not]; exact fun q => h ⟨q.1, q.2.1⟩
theorem arO_yes {f : Nat → Int} {k : Nat} (h : 1 ≤ f k ∧ f k ≤ 2) : arO f k = mdR (upd f k 0) := by
  unfold arO
  rcases hm : mdR (upd f k 0) with _ | _
  · rw [decide_eq_false_iff_not]; intro q; cases q.2.2
  · rw [decide_eq_true_iff]; exact ⟨h.1, h.2, rfl⟩
/-- The greatest number of tiles of the first rows of a list. -/
def mxL (X : List (List Int)) : Nat → Int
  | 0 => 0
  | j + 1 => max (mxL X j) (many (fn (X.getD j [])) 4)
theorem mxL_step {X : List (List Int)} {j : Nat} {x : List Int} (h : X[j]? = some x) : mxL X (j + 1) = max (mxL X j) (many (fn x) 4) := by
  rw [mxL, List.getD_eq_getElem?_getD, h]; rfl
theorem mxL_bd (X : List (List Int)) : ∀ j, 0 ≤ mxL X j ∧ mxL X j ≤ 4
  | 0 => by simp [mxL]
  | j + 1 => by
    have h1 := mxL_bd X j
    have h2 := many_bd (fn (X.getD j [])) 4
    rw [mxL]; omega
/-- The sum of those of the first lines. -/
noncomputable def mbS (f : Nat → Int) (d : Nat) : Nat → Int
  | 0 => 0
  | i + 1 => mbS f d i + mxL (lnR f d i) (lnR f d i).length
theorem mbS_bd (f : Nat → Int) (d : Nat) : ∀ i, 0 ≤ mbS f d i ∧ mbS f d i ≤ 4 * i
  | 0 => by simp [mbS]
  | i + 1 => by
    have h1 := mbS_bd f d i
    have h2 := mxL_bd (lnR f d i) (lnR f d i).length
    rw [mbS]; omega
/-- What MostBefore returns. -/
def MbOk (f : Nat → Int) (d : Int) : Prop := SlideOk f d ∧ cbR f d ≠ 0
noncomputable instance (f : Nat → Int) (d : Int) : Decidable (MbOk f d) := Classical.propDecidable _
noncomputable def mbO (f : Nat → Int) (d : Int) : Bool := decide (MbOk f d)
noncomputable def mbR (f : Nat → Int) (d : Int) : Int := if MbOk f d then mbS f d.toNat 4 else 0
theorem mb_yes {f : Nat → Int} {d : Int} (h : MbOk f d) : mbO f d = true ∧ mbR f d = mbS f d.toNat 4 := ⟨decide_eq_true h, by simp [mbR, h]⟩
theorem mb_no {f : Nat → Int} {d : Int} (h : ¬ MbOk f d) : mbO f d = false ∧ mbR f d = 0 := ⟨decide_eq_false h, by simp [mbR, h]⟩
end Go.Proofs.YtmcmpedmgibmkabGreat.Plain
