/-
  Plain facts on seeds, and on what is played by them. No program stands in this text.
-/
import Derived.Test.YtfjpdopljmilpaaReplPlain
import Derived.Test.YtfjpdopljmilpaaWorstPlain
namespace Go.Proofs.Ytfjpdopljmilpaa.Plain
def SeedOk (s : Int) : Prop := 0 ≤ s ∧ s ≤ 65535
instance (s : Int) : Decidable (SeedOk s) := by unfold SeedOk; infer_instance
/-- The seed behind a seed. -/
def nxS (s : Int) : Int := (25173 * s + 13849) % 65536
theorem nxS_ok (s : Int) : SeedOk (nxS s) := by unfold nxS SeedOk; omega
def nsdR (s : Int) : Int := if SeedOk s then nxS s else 0
def nsdO (s : Int) : Bool := decide (SeedOk s)
theorem nsd_yes {s : Int} (h : SeedOk s) : nsdR s = nxS s ∧ nsdO s = true := by simp [nsdR, nsdO, h]
theorem nsd_no {s : Int} (h : ¬ SeedOk s) : nsdR s = 0 ∧ nsdO s = false := by simp [nsdR, nsdO, h]
/-- The number of the empty cell, and the tile, by a seed. -/
def sdI (S : Nat → Int) (s : Int) : Nat := s.toNat / 16 % empN S 16
def sdT (s : Int) : Int := if s % 16 = 0 then 2 else 1
theorem sdT_bd (s : Int) : 1 ≤ sdT s ∧ sdT s ≤ 2 := by unfold sdT; split <;> omega
theorem sdI_lt {S : Nat → Int} (s : Int) (h : 0 < empN S 16) : sdI S s < empN S 16 := Nat.mod_lt _ h
def stlOk (f : Nat → Int) (s : Int) : Prop := Vd f ∧ SeedOk s ∧ 0 < empN f 16
instance (f : Nat → Int) (s : Int) : Decidable (stlOk f s) := by unfold stlOk; infer_instance
def stlC (f : Nat → Int) (s : Int) : Nat → Int := if stlOk f s then fun i => empF f (sdI f s * 2 + i) else fun _ => 0
def stlT (f : Nat → Int) (s : Int) : Int := if stlOk f s then sdT s else 0
def stlO (f : Nat → Int) (s : Int) : Bool := decide (stlOk f s)
theorem stl_yes {f : Nat → Int} {s : Int} (h : stlOk f s) : stlC f s = (fun i => empF f (sdI f s * 2 + i)) ∧ stlT f s = sdT s ∧ stlO f s = true := by simp [stlC, stlT, stlO, h]
theorem stl_no {f : Nat → Int} {s : Int} (h : ¬ stlOk f s) : stlC f s = (fun _ => 0) ∧ stlT f s = 0 ∧ stlO f s = false := by simp [stlC, stlT, stlO, h]
/-- An order of the four directions. -/
def OrdOk (o : Nat → Int) : Prop := (∀ i, i < 4 → 0 ≤ o i ∧ o i ≤ 3) ∧ ∀ i k, i < k → k < 4 → o i ≠ o k
instance (o : Nat → Int) : Decidable (OrdOk o) := by
  have h : OrdOk o ↔ (∀ i ∈ List.range 4, 0 ≤ o i ∧ o i ≤ 3) ∧ (∀ i ∈ List.range 4, ∀ k ∈ List.range 4, i < k → o i ≠ o k) := by
    unfold OrdOk
    constructor
    · rintro ⟨a, b⟩; exact ⟨fun i hi => a i (List.mem_range.1 hi), fun i _ k hk h => b i k h (List.mem_range.1 hk)⟩
    · rintro ⟨a, b⟩; exact ⟨fun i hi => a i (List.mem_range.2 hi), fun i k h hk => b i (List.mem_range.2 (by omega)) k (List.mem_range.2 hk) h⟩
  exact decidable_of_iff' _ h
theorem OrdOk.has {o : Nat → Int} (h : OrdOk o) {d : Nat} (hd : d < 4) : ∃ i, i < 4 ∧ o i = (d : Int) := by
  obtain ⟨a, b⟩ := h
  have a0 := a 0 (by omega)
  have a1 := a 1 (by omega)
  have a2 := a 2 (by omega)
  have a3 := a 3 (by omega)
  have b1 := b 0 1 (by omega) (by omega)
  have b2 := b 0 2 (by omega) (by omega)
  have b3 := b 0 3 (by omega) (by omega)
  have b4 := b 1 2 (by omega) (by omega)
  have b5 := b 1 3 (by omega) (by omega)
  have b6 := b 2 3 (by omega) (by omega)
  by_cases q0 : o 0 = (d : Int)
  · exact ⟨0, by omega, q0⟩
  by_cases q1 : o 1 = (d : Int)
  · exact ⟨1, by omega, q1⟩
  by_cases q2 : o 2 = (d : Int)
  · exact ⟨2, by omega, q2⟩
  by_cases q3 : o 3 = (d : Int)
  · exact ⟨3, by omega, q3⟩
  exfalso
  clear a b
  generalize o 0 = x0 at *
  generalize o 1 = x1 at *
  generalize o 2 = x2 at *
  generalize o 3 = x3 at *
  have c0 : x0 = 0 ∨ x0 = 1 ∨ x0 = 2 ∨ x0 = 3 := by omega
  have c1 : x1 = 0 ∨ x1 = 1 ∨ x1 = 2 ∨ x1 = 3 := by omega
  rcases c0 with rfl | rfl | rfl | rfl <;> rcases c1 with rfl | rfl | rfl | rfl <;> omega
/-- How many of the first k directions of an order are no moves, up to the first move. -/
def fmN (b o : Nat → Int) : Nat → Nat
  | 0 => 0
  | k + 1 => if fmN b o k = k ∧ isMv b (o k).toNat = false then k + 1 else fmN b o k
theorem fmN_le (b o : Nat → Int) : ∀ k, fmN b o k ≤ k
  | 0 => Nat.le_refl _
  | k + 1 => by have := fmN_le b o k; unfold fmN; split <;> omega
theorem fmN_no {b o : Nat → Int} {k : Nat} (hk : fmN b o k = k) (e : isMv b (o k).toNat = false) : fmN b o (k + 1) = k + 1 := by
  unfold fmN; rw [if_pos ⟨hk, e⟩]
theorem fmN_mv {b o : Nat → Int} {k : Nat} (hk : fmN b o k = k) (e : isMv b (o k).toNat = true) : ∀ m, k ≤ m → fmN b o m = k := by
  intro m hm
  induction m with
  | zero => obtain rfl : k = 0 := by omega
            rfl
  | succ m ih =>
    rcases (by omega : k = m + 1 ∨ k ≤ m) with rfl | q
    · exact hk
    · have := ih q
      unfold fmN
      rw [if_neg, this]
      rintro ⟨q1, q2⟩
      have : k = m := by omega
      subst this
      rw [e] at q2; cases q2
theorem fmN_all {b o : Nat → Int} : ∀ {k}, fmN b o k = k → ∀ i, i < k → isMv b (o i).toNat = false
  | k + 1, h, i, hi => by
    have h0 := fmN_le b o k
    unfold fmN at h
    split at h
    · rename_i q
      rcases (by omega : i < k ∨ i = k) with r | rfl
      · exact fmN_all q.1 i r
      · exact q.2
    · omega
theorem fmN_at {b o : Nat → Int} : ∀ {k}, fmN b o k < k → isMv b (o (fmN b o k)).toNat = true ∧ fmN b o (fmN b o k) = fmN b o k
  | k + 1, h => by
    have h0 := fmN_le b o k
    have e1 : fmN b o (k + 1) = if fmN b o k = k ∧ isMv b (o k).toNat = false then k + 1 else fmN b o k := rfl
    by_cases q : fmN b o k = k ∧ isMv b (o k).toNat = false
    · rw [e1, if_pos q] at h; omega
    · rw [e1, if_neg q]
      rcases (by omega : fmN b o k < k ∨ fmN b o k = k) with r | r
      · exact fmN_at r
      · rw [r]
        refine ⟨?_, r⟩
        cases e : isMv b (o k).toNat with
        | true => rfl
        | false => exact absurd ⟨r, e⟩ q
theorem noMv_at {b : Nat → Int} : (movL b 4).length = 0 ↔ ∀ d, d < 4 → isMv b d = false := by
  have h : ∀ k, (movL b k).length = 0 ↔ ∀ d, d < k → isMv b d = false := by
    intro k
    induction k with
    | zero => simp [movL]
    | succ k ih =>
      cases e : isMv b k with
      | true =>
        rw [mov_yes e]
        constructor
        · intro q; simp at q
        · intro q; have := q k (by omega); rw [e] at this; cases this
      | false =>
        rw [mov_no e, ih]
        constructor
        · intro q d hd
          rcases (by omega : d < k ∨ d = k) with r | rfl
          · exact q d r
          · exact e
        · intro q d hd; exact q d (by omega)
  exact h 4
theorem fm_over {b o : Nat → Int} (h : OrdOk o) : fmN b o 4 = 4 ↔ (movL b 4).length = 0 := by
  rw [noMv_at]
  constructor
  · intro q d hd
    obtain ⟨i, hi, e⟩ := h.has hd
    have := fmN_all q i hi
    rw [e] at this
    exact this
  · intro q
    have h0 := fmN_le b o 4
    rcases (by omega : fmN b o 4 < 4 ∨ fmN b o 4 = 4) with r | r
    · have h1 := (fmN_at r).1
      have h2 := h.1 _ r
      rw [q _ (by omega)] at h1
      cases h1
    · exact r
/-- The direction of the first move. -/
def fmD (b o : Nat → Int) : Nat := (o (fmN b o 4)).toNat
theorem fmD_mv {b o : Nat → Int} (h : OrdOk o) (q : fmN b o 4 < 4) : fmD b o < 4 ∧ isMv b (fmD b o) = true ∧ o (fmN b o 4) = (fmD b o : Int) := by
  have h1 := h.1 _ q
  refine ⟨by unfold fmD; omega, (fmN_at q).1, by unfold fmD; omega⟩
/-- The step by a seed. -/
def sdStep (b o : Nat → Int) (s : Int) : Nat → Int := stp (fmD b o : Int) (empF (slideB b (fmD b o))) (sdI (slideB b (fmD b o)) s) (sdT s)
theorem sd_ok {b o : Nat → Int} {s : Int} (hV : Vd b) (h : OrdOk o) (q : fmN b o 4 < 4) : StepOk b (sdStep b o s) := by
  obtain ⟨h1, h2, _⟩ := fmD_mv h q
  refine stp_ok h1 (by simpa [isMv] using h2) (sdI_lt s (mv_room hV h2)) (sdT_bd s)
/-- The board, the seed and the steps behind at most k steps. -/
def psA (f o : Nat → Int) (s : Int) : Nat → (Nat → Int) × Int × List (List Int)
  | 0 => (f, s, [])
  | k + 1 => if fmN (psA f o s k).1 o 4 = 4 then psA f o s k
    else (doB (psA f o s k).1 (sdStep (psA f o s k).1 o (psA f o s k).2.1), nxS (psA f o s k).2.1, (psA f o s k).2.2 ++ [cl 4 (sdStep (psA f o s k).1 o (psA f o s k).2.1)])
theorem psA_over {f o : Nat → Int} {s : Int} {k : Nat} (h : fmN (psA f o s k).1 o 4 = 4) : ∀ m, k ≤ m → psA f o s m = psA f o s k := by
  intro m hm
  induction m with
  | zero => obtain rfl : k = 0 := by omega
            rfl
  | succ m ih =>
    rcases (by omega : k = m + 1 ∨ k ≤ m) with rfl | q
    · rfl
    · have := ih q
      rw [psA, if_pos (by rw [this]; exact h), this]
theorem psA_on {f o : Nat → Int} {s : Int} {k : Nat} (h : fmN (psA f o s k).1 o 4 < 4) :
    psA f o s (k + 1) = (doB (psA f o s k).1 (sdStep (psA f o s k).1 o (psA f o s k).2.1), nxS (psA f o s k).2.1, (psA f o s k).2.2 ++ [cl 4 (sdStep (psA f o s k).1 o (psA f o s k).2.1)]) := by
  rw [psA, if_neg (by omega)]
theorem psA_vd {f o : Nat → Int} {s : Int} (hV : Vd f) (hs : SeedOk s) : ∀ k, Vd (psA f o s k).1 ∧ SeedOk (psA f o s k).2.1 ∧ (psA f o s k).2.2.length ≤ k ∧ ∀ l, l ∈ (psA f o s k).2.2 → l.length = 4
  | 0 => ⟨hV, hs, Nat.le_refl _, fun l hl => by cases hl⟩
  | k + 1 => by
    obtain ⟨a, b, c, d⟩ := psA_vd (o := o) hV hs k
    rw [psA]
    split
    · exact ⟨a, b, by omega, d⟩
    · refine ⟨do_vd a, nxS_ok _, by simp; omega, fun l hl => ?_⟩
      rcases List.mem_append.1 hl with hl | hl
      · exact d l hl
      · obtain rfl := List.mem_singleton.1 hl; exact cl_len _ _
theorem psA_len {f o : Nat → Int} {s : Int} : ∀ k, (psA f o s k).2.2.length = k ∨ (psA f o s k).2.2.length < k ∧ fmN (psA f o s k).1 o 4 = 4
  | 0 => .inl rfl
  | k + 1 => by
    have ih := psA_len (f := f) (o := o) (s := s) k
    have h0 := fmN_le (psA f o s k).1 o 4
    rcases (by omega : fmN (psA f o s k).1 o 4 = 4 ∨ fmN (psA f o s k).1 o 4 < 4) with q | q
    · rw [psA, if_pos q]
      rcases ih with ih | ih
      · exact .inr ⟨by omega, q⟩
      · exact .inr ⟨by omega, q⟩
    · rcases ih with ih | ih
      · left; rw [psA_on q]; simp [ih]
      · omega
/-- What PlaySeed returns. -/
def psOk (f o : Nat → Int) (s n : Int) : Prop := Vd f ∧ OrdOk o ∧ SeedOk s ∧ 0 ≤ n ∧ n ≤ 40
instance (f o : Nat → Int) (s n : Int) : Decidable (psOk f o s n) := by unfold psOk; infer_instance
def psB (f o : Nat → Int) (s n : Int) : Nat → Int := if psOk f o s n then f else fun _ => 0
def psL (f o : Nat → Int) (s n : Int) : List (List Int) := if psOk f o s n then (psA f o s n.toNat).2.2 else []
def psS (f o : Nat → Int) (s n : Int) : Int := if psOk f o s n then (psA f o s n.toNat).2.1 else 0
def psO (f o : Nat → Int) (s n : Int) : Bool := decide (psOk f o s n)
theorem ps_yes {f o : Nat → Int} {s n : Int} (h : psOk f o s n) : psB f o s n = f ∧ psL f o s n = (psA f o s n.toNat).2.2 ∧ psS f o s n = (psA f o s n.toNat).2.1 ∧ psO f o s n = true := by simp [psB, psL, psS, psO, h]
theorem ps_no {f o : Nat → Int} {s n : Int} (h : ¬ psOk f o s n) : psB f o s n = (fun _ => 0) ∧ psL f o s n = [] ∧ psS f o s n = 0 ∧ psO f o s n = false := by simp [psB, psL, psS, psO, h]
end Go.Proofs.Ytfjpdopljmilpaa.Plain
