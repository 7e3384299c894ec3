/-
  Plain facts on the worst new tile: placements, what lasts, and sure scores. No program stands in this text.
-/
import Derived.Test.YtfjpdopljmilpaaStepPlain
namespace Go.Proofs.Ytfjpdopljmilpaa.Plain
/-- The empty places among the first k, in order. -/
def emI (f : Nat → Int) : Nat → List Nat
  | 0 => []
  | k + 1 => if f k = 0 then emI f k ++ [k] else emI f k
theorem emI_len (f : Nat → Int) : ∀ k, (emI f k).length = empN f k
  | 0 => rfl
  | k + 1 => by have := emI_len f k; unfold emI empN; split <;> simp [this]
theorem emI_mem {f : Nat → Int} {j : Nat} : ∀ {k}, j ∈ emI f k ↔ j < k ∧ f j = 0
  | 0 => by simp [emI]
  | k + 1 => by
    unfold emI
    split
    · rename_i h
      rw [List.mem_append, List.mem_singleton, emI_mem]
      constructor
      · rintro (⟨a, b⟩ | rfl)
        · exact ⟨by omega, b⟩
        · exact ⟨by omega, h⟩
      · rintro ⟨a, b⟩
        by_cases e : j = k
        · exact .inr e
        · exact .inl ⟨by omega, b⟩
    · rename_i h
      rw [emI_mem]
      constructor
      · rintro ⟨a, b⟩; exact ⟨by omega, b⟩
      · rintro ⟨a, b⟩
        exact ⟨by have : j ≠ k := fun e => h (e ▸ b); omega, b⟩
/-- The cell i of those that are empty: its place, and the two numbers by which it is told. -/
theorem emI_at (f : Nat → Int) : ∀ (k i : Nat), i < empN f k → ∃ j, (emI f k)[i]? = some j ∧ j < k ∧ f j = 0 ∧ (empL f k).getD (i * 2) 0 = ((j / 4 : Nat) : Int) ∧ (empL f k).getD (i * 2 + 1) 0 = ((j % 4 : Nat) : Int)
  | 0, i, h => by simp [empN] at h
  | k + 1, i, h => by
    by_cases h0 : f k = 0
    · obtain ⟨y1, y2⟩ := emp_yes h0
      rw [y2] at h
      have hl := emp_len f k
      have hm := emI_len f k
      have e : emI f (k + 1) = emI f k ++ [k] := by simp [emI, h0]
      by_cases hi : i < empN f k
      · obtain ⟨j, hx, hj, h1, h2, h3⟩ := emI_at f k i hi
        refine ⟨j, ?_, by omega, h1, ?_, ?_⟩
        · rw [e, List.getElem?_append_left (by omega)]; exact hx
        · rw [y1, getD_left (by omega)]; exact h2
        · rw [y1, getD_left (by omega)]; exact h3
      · obtain rfl : i = empN f k := by omega
        refine ⟨k, ?_, by omega, h0, ?_, ?_⟩
        · rw [e, List.getElem?_append_right (by omega), hm]; simp
        · rw [y1, getD_right (k := 0) (by omega)]; rfl
        · rw [y1, getD_right (k := 1) (by omega)]; rfl
    · obtain ⟨y1, y2⟩ := emp_no h0
      rw [y2] at h
      have e : emI f (k + 1) = emI f k := by simp [emI, h0]
      obtain ⟨j, hx, hj, h1, h2, h3⟩ := emI_at f k i h
      exact ⟨j, by rw [e]; exact hx, by omega, h1, by rw [y1]; exact h2, by rw [y1]; exact h3⟩
theorem empN_pos {f : Nat → Int} {j : Nat} : ∀ {k}, j < k → f j = 0 → 0 < empN f k
  | 0, h, _ => by omega
  | k + 1, h, h0 => by
    unfold empN
    split
    · omega
    · rename_i hk
      exact empN_pos (by have : j ≠ k := fun e => hk (e ▸ h0); omega) h0

/-- All placements: the place and the tile; and those of the first i empty cells. -/
def plN (f : Nat → Int) (i : Nat) : List (Nat × Nat) := ((emI f 16).take i).flatMap fun j => [(j, 1), (j, 2)]
def plA (f : Nat → Int) : List (Nat × Nat) := (emI f 16).flatMap fun j => [(j, 1), (j, 2)]
theorem plN_zero (f : Nat → Int) : plN f 0 = [] := by simp [plN]
theorem plN_step {f : Nat → Int} {i j : Nat} (h : (emI f 16)[i]? = some j) : plN f (i + 1) = plN f i ++ [(j, 1), (j, 2)] := by
  have hi : i < (emI f 16).length := (List.getElem?_eq_some_iff.1 h).1
  have hv : (emI f 16)[i] = j := (List.getElem?_eq_some_iff.1 h).2
  unfold plN
  rw [List.take_succ_eq_append_getElem hi, List.flatMap_append, hv]
  simp
theorem plN_all (f : Nat → Int) : plN f (empN f 16) = plA f := by
  unfold plN plA
  rw [List.take_of_length_le (by rw [emI_len]; exact Nat.le_refl _)]
theorem flat_two (L : List Nat) : (L.flatMap fun j => [(j, 1), (j, 2)] : List (Nat × Nat)).length = L.length * 2 := by
  induction L with
  | nil => rfl
  | cons a L ih => simp only [List.flatMap_cons, List.length_append, ih, List.length_cons, List.length_nil]; omega
theorem plA_len (f : Nat → Int) : (plA f).length = empN f 16 * 2 := by unfold plA; rw [flat_two, emI_len]
theorem plN_len (f : Nat → Int) {i : Nat} (h : i ≤ empN f 16) : (plN f i).length = i * 2 := by
  unfold plN; rw [flat_two, List.length_take, emI_len]; omega
theorem plA_le (f : Nat → Int) : (plA f).length ≤ 32 := by have := empN_le f 16; rw [plA_len]; omega
/-- A placement on a board. -/
def PlOk (f : Nat → Int) (p : Nat × Nat) : Prop := p.1 < 16 ∧ f p.1 = 0 ∧ 1 ≤ p.2 ∧ p.2 ≤ 2
theorem plA_ok {f : Nat → Int} {p : Nat × Nat} : p ∈ plA f ↔ PlOk f p := by
  unfold plA PlOk
  rw [List.mem_flatMap]
  constructor
  · rintro ⟨j, hj, hp⟩
    obtain ⟨a, b⟩ := emI_mem.1 hj
    rcases List.mem_cons.1 hp with rfl | hp
    · exact ⟨a, b, by simp⟩
    · obtain rfl := List.mem_singleton.1 hp; exact ⟨a, b, by simp⟩
  · rintro ⟨a, b, c, d⟩
    refine ⟨p.1, emI_mem.2 ⟨a, b⟩, ?_⟩
    rcases (by omega : p.2 = 1 ∨ p.2 = 2) with e | e
    · rw [List.mem_cons]; exact .inl (Prod.ext rfl e)
    · rw [List.mem_cons]; exact .inr (by rw [List.mem_singleton]; exact Prod.ext rfl e)
abbrev Pl (f : Nat → Int) := { p : Nat × Nat // PlOk f p }
/-- The three numbers of a placement, and the board with it. -/
def plF (p : Nat × Nat) : Nat → Int := fun i => if i = 0 then ((p.1 / 4 : Nat) : Int) else if i = 1 then ((p.1 % 4 : Nat) : Int) else ((p.2 : Nat) : Int)
def plB (f : Nat → Int) (p : Nat × Nat) : Nat → Int := upd f p.1 ((p.2 : Nat) : Int)
theorem plF_zero (i : Nat) : plF (0, 0) i = 0 := by unfold plF; split <;> (try split) <;> rfl
theorem plB_vd {f : Nat → Int} (hf : Vd f) {p : Nat × Nat} (hp : PlOk f p) : Vd (plB f p) := fun j hj => by
  unfold plB upd
  obtain ⟨_, _, a, b⟩ := hp
  split
  · omega
  · exact hf j hj

/-- What PlacementsOf and DeadPlaces return. -/
def plL (L : List (Nat × Nat)) : List (List Int) := L.map fun p => cl 3 (plF p)
theorem plL_snoc (L : List (Nat × Nat)) (p : Nat × Nat) : plL (L ++ [p]) = plL L ++ [cl 3 (plF p)] := by simp [plL]
theorem plL_len (L : List (Nat × Nat)) : (plL L).length = L.length := by simp [plL]
def plR (f : Nat → Int) : List (List Int) := if Vd f then plL (plA f) else []
theorem plR_yes {f : Nat → Int} (h : Vd f) : plR f = plL (plA f) := by simp [plR, h]
theorem plR_no {f : Nat → Int} (h : ¬ Vd f) : plR f = [] := by simp [plR, h]
def noMvB (f : Nat → Int) : Bool := decide ((movL f 4).length = 0)
def ddL (f : Nat → Int) (L : List (Nat × Nat)) : List (Nat × Nat) := L.filter fun p => noMvB (plB f p)
theorem ddL_yes {f : Nat → Int} {L : List (Nat × Nat)} {p : Nat × Nat} (h : (movL (plB f p) 4).length = 0) : ddL f (L ++ [p]) = ddL f L ++ [p] := by
  have e : noMvB (plB f p) = true := decide_eq_true h
  unfold ddL; rw [List.filter_append]; simp [e]
theorem ddL_no {f : Nat → Int} {L : List (Nat × Nat)} {p : Nat × Nat} (h : (movL (plB f p) 4).length ≠ 0) : ddL f (L ++ [p]) = ddL f L := by
  have e : noMvB (plB f p) = false := decide_eq_false h
  unfold ddL; rw [List.filter_append]; simp [e]
theorem ddL_le (f : Nat → Int) (L : List (Nat × Nat)) : (ddL f L).length ≤ L.length := List.length_filter_le _ _
def ddR (f : Nat → Int) : List (List Int) := if Vd f then plL (ddL f (plA f)) else []
theorem ddR_yes {f : Nat → Int} (h : Vd f) : ddR f = plL (ddL f (plA f)) := by simp [ddR, h]
theorem ddR_no {f : Nat → Int} (h : ¬ Vd f) : ddR f = [] := by simp [ddR, h]

/-- The first of some placements for which a number is the least, this number, and whether there is one. -/
structure Lst where
  p : Nat × Nat
  v : Int
  ok : Bool
def lsStep (c : Nat × Nat → Int) (s : Lst) (p : Nat × Nat) : Lst := if s.ok = false ∨ c p < s.v then ⟨p, c p, true⟩ else s
def ls0 : Lst := ⟨(0, 0), 0, false⟩
def lsF (c : Nat × Nat → Int) (L : List (Nat × Nat)) : Lst := L.foldl (lsStep c) ls0
theorem lsF_nil (c : Nat × Nat → Int) : lsF c [] = ls0 := rfl
theorem lsF_snoc (c : Nat × Nat → Int) (L : List (Nat × Nat)) (p : Nat × Nat) : lsF c (L ++ [p]) = lsStep c (lsF c L) p := by simp [lsF, List.foldl_append]
theorem lsStep_yes {c : Nat × Nat → Int} {s : Lst} {p : Nat × Nat} (h : s.ok = false ∨ c p < s.v) : lsStep c s p = ⟨p, c p, true⟩ := by unfold lsStep; rw [if_pos h]
theorem lsStep_no {c : Nat × Nat → Int} {s : Lst} {p : Nat × Nat} (h : ¬ (s.ok = false ∨ c p < s.v)) : lsStep c s p = s := by unfold lsStep; rw [if_neg h]
theorem lsStep_ok (c : Nat × Nat → Int) (s : Lst) (p : Nat × Nat) : (lsStep c s p).ok = true := by
  by_cases h : s.ok = false ∨ c p < s.v
  · rw [lsStep_yes h]
  · rw [lsStep_no h]; simp only [not_or, Bool.not_eq_false] at h; exact h.1
theorem list_snoc {α : Type} (P : List α → Prop) (h0 : P []) (h1 : ∀ L x, P L → P (L ++ [x])) (L : List α) : P L := by
  have h2 : ∀ n, ∀ L : List α, L.length = n → P L := by
    intro n
    induction n with
    | zero => intro L h; rw [List.eq_nil_of_length_eq_zero h]; exact h0
    | succ n ih =>
      intro L h
      have hne : L ≠ [] := by intro e; subst e; simp at h
      rw [← List.dropLast_concat_getLast hne]
      exact h1 _ _ (ih _ (by rw [List.length_dropLast]; omega))
  exact h2 _ L rfl
theorem lsF_ok (c : Nat × Nat → Int) (L : List (Nat × Nat)) : (lsF c L).ok = decide (L ≠ []) := by
  refine list_snoc (fun L => (lsF c L).ok = decide (L ≠ [])) rfl (fun L x _ => ?_) L
  rw [lsF_snoc, lsStep_ok]; simp
/-- The least is one of the numbers, and no number is less. -/
theorem lsF_is (c : Nat × Nat → Int) (L : List (Nat × Nat)) : L ≠ [] → (lsF c L).p ∈ L ∧ (lsF c L).v = c (lsF c L).p ∧ ∀ q, q ∈ L → (lsF c L).v ≤ c q := by
  refine list_snoc (fun L => L ≠ [] → (lsF c L).p ∈ L ∧ (lsF c L).v = c (lsF c L).p ∧ ∀ q, q ∈ L → (lsF c L).v ≤ c q) (fun h => absurd rfl h) (fun L x ih _ => ?_) L
  rw [lsF_snoc]
  by_cases h : (lsF c L).ok = false ∨ c x < (lsF c L).v
  · rw [lsStep_yes h]
    refine ⟨by simp, rfl, fun q hq => ?_⟩
    rcases List.mem_append.1 hq with hq | hq
    · rcases h with h | h
      · rw [lsF_ok] at h
        have : L = [] := by simpa using h
        subst this; cases hq
      · have := (ih (List.ne_nil_of_mem hq)).2.2 q hq
        show c x ≤ c q
        omega
    · obtain rfl := List.mem_singleton.1 hq; exact Int.le_refl _
  · rw [lsStep_no h]
    simp only [not_or, Bool.not_eq_false] at h
    have hne : L ≠ [] := by have := h.1; rw [lsF_ok] at this; simpa using this
    obtain ⟨i1, i2, i3⟩ := ih hne
    refine ⟨by simp [i1], i2, fun q hq => ?_⟩
    rcases List.mem_append.1 hq with hq | hq
    · exact i3 q hq
    · obtain rfl := List.mem_singleton.1 hq; omega
theorem lsF_congr {c d : Nat × Nat → Int} {L : List (Nat × Nat)} (h : ∀ p, p ∈ L → c p = d p) : lsF c L = lsF d L := by
  revert h
  refine list_snoc (fun L => (∀ p, p ∈ L → c p = d p) → lsF c L = lsF d L) (fun _ => rfl) (fun L x ih h => ?_) L
  rw [lsF_snoc, lsF_snoc, ih (fun p hp => h p (by simp [hp]))]
  unfold lsStep
  rw [h x (by simp)]
theorem lsF_bd {c : Nat × Nat → Int} {L : List (Nat × Nat)} {m : Int} (hm : 0 ≤ m) (h : ∀ p, p ∈ L → 0 ≤ c p ∧ c p ≤ m) : 0 ≤ (lsF c L).v ∧ (lsF c L).v ≤ m := by
  by_cases e : L = []
  · subst e; exact ⟨Int.le_refl _, hm⟩
  · obtain ⟨i1, i2, _⟩ := lsF_is c L e
    rw [i2]; exact h _ i1
/-- What WorstTile returns. -/
def mvC (f : Nat → Int) (p : Nat × Nat) : Int := ((movL (plB f p) 4).length : Int)
def wtR (f : Nat → Int) : Lst := if Vd f then lsF (mvC f) (plA f) else ls0
theorem wtR_yes {f : Nat → Int} (h : Vd f) : wtR f = lsF (mvC f) (plA f) := by simp [wtR, h]
theorem wtR_no {f : Nat → Int} (h : ¬ Vd f) : wtR f = ls0 := by simp [wtR, h]

/-- A board lasts n moves; a direction is safe for n + 1. -/
def lastF : Nat → (Nat → Int) → Bool
  | 0, _ => true
  | n + 1, f => (List.range 4).any fun d => isMv f d && (plA (slideB f d)).all fun p => lastF n (plB (slideB f d) p)
def sfF (n : Nat) (f : Nat → Int) (d : Nat) : Bool := isMv f d && (plA (slideB f d)).all fun p => lastF n (plB (slideB f d) p)
theorem last_zero (f : Nat → Int) : lastF 0 f = true := rfl
theorem last_succ (n : Nat) (f : Nat → Int) : lastF (n + 1) f = (List.range 4).any (sfF n f) := rfl
def sfL (n : Nat) (f : Nat → Int) : Nat → List Nat
  | 0 => []
  | k + 1 => if sfF n f k = true then sfL n f k ++ [k] else sfL n f k
theorem sfL_yes {n : Nat} {f : Nat → Int} {k : Nat} (h : sfF n f k = true) : sfL n f (k + 1) = sfL n f k ++ [k] := by simp [sfL, h]
theorem sfL_no {n : Nat} {f : Nat → Int} {k : Nat} (h : sfF n f k = false) : sfL n f (k + 1) = sfL n f k := by simp [sfL, h]
theorem sfL_mem {n : Nat} {f : Nat → Int} {d : Nat} : ∀ {k}, d ∈ sfL n f k ↔ d < k ∧ sfF n f d = true
  | 0 => by simp [sfL]
  | k + 1 => by
    unfold sfL
    split
    · rename_i h
      rw [List.mem_append, List.mem_singleton, sfL_mem]
      constructor
      · rintro (⟨a, b⟩ | rfl)
        · exact ⟨by omega, b⟩
        · exact ⟨by omega, h⟩
      · rintro ⟨a, b⟩
        by_cases e : d = k
        · exact .inr e
        · exact .inl ⟨by omega, b⟩
    · rename_i h
      rw [sfL_mem]
      constructor
      · rintro ⟨a, b⟩; exact ⟨by omega, b⟩
      · rintro ⟨a, b⟩
        exact ⟨by have : d ≠ k := fun e => h (e ▸ b); omega, b⟩
theorem sfL_le (n : Nat) (f : Nat → Int) : ∀ k, (sfL n f k).length ≤ k
  | 0 => Nat.le_refl _
  | k + 1 => by have := sfL_le n f k; unfold sfL; split <;> simp <;> omega
theorem last_iff (n : Nat) (f : Nat → Int) : lastF (n + 1) f = true ↔ ∃ d, d < 4 ∧ sfF n f d = true := by
  rw [last_succ, List.any_eq_true]
  constructor
  · rintro ⟨d, hd, h⟩; exact ⟨d, List.mem_range.1 hd, h⟩
  · rintro ⟨d, hd, h⟩; exact ⟨d, List.mem_range.2 hd, h⟩
theorem last_sfL (n : Nat) (f : Nat → Int) : lastF (n + 1) f = decide (sfL n f 4 ≠ []) := by
  by_cases h : lastF (n + 1) f = true
  · rw [h]
    obtain ⟨d, hd, hs⟩ := (last_iff n f).1 h
    have := List.ne_nil_of_mem (sfL_mem.2 ⟨hd, hs⟩)
    simp [this]
  · have h2 : sfL n f 4 = [] := List.eq_nil_iff_forall_not_mem.2 fun d hd => h ((last_iff n f).2 ⟨d, (sfL_mem.1 hd).1, (sfL_mem.1 hd).2⟩)
    rw [h2]; simpa using h
theorem sf_iff {n : Nat} {f : Nat → Int} {d : Nat} : sfF n f d = true ↔ isMv f d = true ∧ ∀ p, p ∈ plA (slideB f d) → lastF n (plB (slideB f d) p) = true := by
  unfold sfF; rw [Bool.and_eq_true, List.all_eq_true]
theorem sf_mv {n : Nat} {f : Nat → Int} {d : Nat} (h : isMv f d = false) : sfF n f d = false := by unfold sfF; rw [h]; rfl
/-- A board that lasts some moves lasts fewer. -/
theorem last_less : ∀ (n : Nat) (f : Nat → Int), lastF (n + 1) f = true → lastF n f = true
  | 0, _, _ => rfl
  | n + 1, f, h => by
    obtain ⟨d, hd, hs⟩ := (last_iff (n + 1) f).1 h
    obtain ⟨h1, h2⟩ := sf_iff.1 hs
    exact (last_iff n f).2 ⟨d, hd, sf_iff.2 ⟨h1, fun p hp => last_less n _ (h2 p hp)⟩⟩
/-- What Lasts, LastsHow and SafeMoves return. -/
def LastOk (f : Nat → Int) (n : Int) : Prop := Vd f ∧ 0 ≤ n ∧ n ≤ 3
instance (f : Nat → Int) (n : Int) : Decidable (LastOk f n) := by unfold LastOk; infer_instance
def ltR (f : Nat → Int) (n : Int) : Bool := if LastOk f n then lastF n.toNat f else false
def ltO (f : Nat → Int) (n : Int) : Bool := decide (LastOk f n)
theorem lt_yes {f : Nat → Int} {n : Int} (h : LastOk f n) : ltR f n = lastF n.toNat f ∧ ltO f n = true := by simp [ltR, ltO, h]
theorem lt_no {f : Nat → Int} {n : Int} (h : ¬ LastOk f n) : ltR f n = false ∧ ltO f n = false := by simp [ltR, ltO, h]
def hwF (f : Nat → Int) : Nat → Nat
  | 0 => 0
  | k + 1 => if hwF f k = k ∧ lastF (k + 1) f = true then k + 1 else hwF f k
theorem hwF_le (f : Nat → Int) : ∀ k, hwF f k ≤ k
  | 0 => Nat.le_refl _
  | k + 1 => by have := hwF_le f k; unfold hwF; split <;> omega
def hwR (f : Nat → Int) : Int := if Vd f then (hwF f 3 : Nat) else 0
theorem hwR_yes {f : Nat → Int} (h : Vd f) : hwR f = (hwF f 3 : Nat) := by simp [hwR, h]
theorem hwR_no {f : Nat → Int} (h : ¬ Vd f) : hwR f = 0 := by simp [hwR, h]
def SafeOk (f : Nat → Int) (n : Int) : Prop := Vd f ∧ 1 ≤ n ∧ n ≤ 3
instance (f : Nat → Int) (n : Int) : Decidable (SafeOk f n) := by unfold SafeOk; infer_instance
def sfR (f : Nat → Int) (n : Int) : List Int := if SafeOk f n then (sfL (n.toNat - 1) f 4).map fun d => ((d : Nat) : Int) else []
def sfO (f : Nat → Int) (n : Int) : Bool := decide (SafeOk f n)
theorem sf_yes {f : Nat → Int} {n : Int} (h : SafeOk f n) : sfR f n = (sfL (n.toNat - 1) f 4).map (fun d => ((d : Nat) : Int)) ∧ sfO f n = true := by simp [sfR, sfO, h]
theorem sf_no {f : Nat → Int} {n : Int} (h : ¬ SafeOk f n) : sfR f n = [] ∧ sfO f n = false := by simp [sfR, sfO, h]
/-- The first placement after which a board does not last n moves. -/
def rfF (n : Nat) (f : Nat → Int) (L : List (Nat × Nat)) : Option (Nat × Nat) := L.find? fun p => !lastF n (plB f p)
theorem rfF_nil (n : Nat) (f : Nat → Int) : rfF n f [] = none := rfl
theorem rfF_zero (f : Nat → Int) (L : List (Nat × Nat)) : rfF 0 f L = none := by unfold rfF; simp [last_zero]
theorem rfF_some {n : Nat} {f : Nat → Int} {L : List (Nat × Nat)} {p : Nat × Nat} (h0 : rfF n f L = none) (h : lastF n (plB f p) = false) (M : List (Nat × Nat)) : rfF n f (L ++ p :: M) = some p := by
  unfold rfF at *; rw [List.find?_append, h0]; simp [h]
theorem rfF_none {n : Nat} {f : Nat → Int} {L : List (Nat × Nat)} {p : Nat × Nat} (h0 : rfF n f L = none) (h : lastF n (plB f p) = true) : rfF n f (L ++ [p]) = none := by
  unfold rfF at *; rw [List.find?_append, h0]; simp [h]
theorem sf_rf (n : Nat) (f : Nat → Int) (d : Nat) : sfF n f d = (isMv f d && (rfF n (slideB f d) (plA (slideB f d))).isNone) := by
  unfold sfF rfF
  congr 1
  rw [Bool.eq_iff_iff, List.all_eq_true, Option.isNone_iff_eq_none, List.find?_eq_none]
  simp
def rfP (o : Option (Nat × Nat)) : Nat × Nat := o.getD (0, 0)
def RefOk (f : Nat → Int) (d n : Int) : Prop := SlideOk f d ∧ isMv f d.toNat = true ∧ 1 ≤ n ∧ n ≤ 3
instance (f : Nat → Int) (d n : Int) : Decidable (RefOk f d n) := by unfold RefOk; infer_instance
def rmR (f : Nat → Int) (d n : Int) : Option (Nat × Nat) := if RefOk f d n then rfF (n.toNat - 1) (slideB f d.toNat) (plA (slideB f d.toNat)) else none
theorem rm_yes {f : Nat → Int} {d n : Int} (h : RefOk f d n) : rmR f d n = rfF (n.toNat - 1) (slideB f d.toNat) (plA (slideB f d.toNat)) := by simp [rmR, h]
theorem rm_no {f : Nat → Int} {d n : Int} (h : ¬ RefOk f d n) : rmR f d n = none := by simp [rmR, h]

/-- A slide that is a move leaves an empty cell. -/
theorem slid_n_le (f : Nat → Int) : ∀ k, (slid f k).n ≤ k
  | 0 => Nat.le_refl _
  | k + 1 => by
    have h := slid_n_le f k
    show (slidStep (slid f k) (f k)).n ≤ k + 1
    unfold slidStep
    split
    · omega
    · split
      · show (slid f k).n ≤ k + 1; omega
      · show (slid f k).n + 1 ≤ k + 1; omega
theorem slid_fullT (f : Nat → Int) : ∀ k, (slid f k).n = k → ∀ j, j < k → (slid f k).row j = f j
  | 0, _, j, hj => by omega
  | k + 1, h, j, hj => by
    have h1 := slid_n_le f k
    have e : slid f (k + 1) = slidStep (slid f k) (f k) := rfl
    rw [e] at h ⊢
    unfold slidStep at h ⊢
    split at h
    · omega
    · rename_i h0
      rw [if_neg h0]
      split at h
      · have h : (slid f k).n = k + 1 := h
        omega
      · rename_i h2
        rw [if_neg h2]
        have h : (slid f k).n + 1 = k + 1 := h
        have hk : (slid f k).n = k := by omega
        show upd (slid f k).row (slid f k).n (f k) j = f j
        rw [hk]
        by_cases q : j = k
        · subst q; rw [upd_same]
        · rw [upd_other _ _ q]; exact slid_fullT f k hk j (by omega)
theorem mv_room {f : Nat → Int} {d : Nat} (hf : Vd f) (h : isMv f d = true) : 0 < empN (slideB f d) 16 := by
  rcases Nat.eq_zero_or_pos (empN (slideB f d) 16) with h0 | h0
  · exfalso
    have hne : ∀ j, j < 16 → slideB f d j ≠ 0 := fun j hj e => by have := empN_pos hj e; omega
    have hs : sameB (slideB f d) f = true := sameB_iff.2 fun j hj => by
      have hi := lineOf_lt (d := d) hj
      have hk := placeOf_lt (d := d) hj
      have ok := slid_ok (lineF_vd hf d hi) 4 (Nat.le_refl _)
      have hn : (slid (lineF f d (lineOf d j)) 4).n = 4 := by
        have h4 := ok.n_le
        rcases Nat.lt_or_ge (slid (lineF f d (lineOf d j)) 4).n 4 with h5 | h5
        · exfalso
          have h6 := ok.rest 3 (by omega)
          have h7 := hne (pos d (lineOf d j) 3) (pos_lt hi (by omega))
          apply h7
          unfold slideB
          rw [lineOf_pos hi (by omega), placeOf_pos hi (by omega)]
          exact h6
        · omega
      have := slid_fullT _ 4 hn (placeOf d j) hk
      unfold slideB
      rw [this]
      unfold lineF
      rw [pos_of hj]
    unfold isMv at h
    rw [hs] at h
    cases h
  · exact h0
theorem mv_places {f : Nat → Int} {d : Nat} (hf : Vd f) (h : isMv f d = true) : plA (slideB f d) ≠ [] := fun e => by
  have h1 := plA_len (slideB f d)
  have h2 := mv_room hf h
  rw [e] at h1
  simp at h1
  omega

/-- The first of the first k directions that are moves for which a number is the greatest, this number, and whether there is one. -/
structure Bst where
  d : Nat
  v : Int
  ok : Bool
def bs0 : Bst := ⟨0, 0, false⟩
def bsF (f : Nat → Int) (c : Nat → Int) : Nat → Bst
  | 0 => bs0
  | k + 1 => if isMv f k = true then (if (bsF f c k).ok = false ∨ c k > (bsF f c k).v then ⟨k, c k, true⟩ else bsF f c k) else bsF f c k
theorem bs_still {f : Nat → Int} {c : Nat → Int} {k : Nat} (h : isMv f k = false) : bsF f c (k + 1) = bsF f c k := by simp [bsF, h]
theorem bs_yes {f : Nat → Int} {c : Nat → Int} {k : Nat} (h : isMv f k = true) (h2 : (bsF f c k).ok = false ∨ c k > (bsF f c k).v) : bsF f c (k + 1) = ⟨k, c k, true⟩ := by simp only [bsF, h, h2, if_true]
theorem bs_no {f : Nat → Int} {c : Nat → Int} {k : Nat} (h : isMv f k = true) (h2 : ¬ ((bsF f c k).ok = false ∨ c k > (bsF f c k).v)) : bsF f c (k + 1) = bsF f c k := by simp only [bsF, h, h2, if_true, if_false]
/-- The sure score in n moves. -/
def suF : Nat → (Nat → Int) → Int
  | 0, _ => 0
  | n + 1, f => (bsF f (fun d => slideS f d 4 + (lsF (fun p => suF n (plB (slideB f d) p)) (plA (slideB f d))).v) 4).v
/-- The worst reply to a slide, and the score of a slide and of the worst reply to it. -/
def wrF (n : Nat) (g : Nat → Int) : Lst := lsF (fun p => suF n (plB g p)) (plA g)
def scF (n : Nat) (f : Nat → Int) (d : Nat) : Int := slideS f d 4 + (wrF n (slideB f d)).v
def bbF (n : Nat) (f : Nat → Int) (k : Nat) : Bst := bsF f (scF n f) k
theorem su_zero (f : Nat → Int) : suF 0 f = 0 := rfl
theorem su_succ (n : Nat) (f : Nat → Int) : suF (n + 1) f = (bbF n f 4).v := rfl
theorem bs_bd {f c : Nat → Int} {m : Int} (hm : 0 ≤ m) : ∀ k, (∀ d, d < k → 0 ≤ c d ∧ c d ≤ m) → 0 ≤ (bsF f c k).v ∧ (bsF f c k).v ≤ m ∧ (bsF f c k).d ≤ k
  | 0, _ => ⟨Int.le_refl _, hm, Nat.le_refl _⟩
  | k + 1, h => by
    obtain ⟨a, b, e⟩ := bs_bd (f := f) hm k (fun d hd => h d (by omega))
    have h1 := h k (by omega)
    unfold bsF
    split
    · split
      · exact ⟨h1.1, h1.2, by show k ≤ k + 1; omega⟩
      · exact ⟨a, b, by omega⟩
    · exact ⟨a, b, by omega⟩
theorem su_bd : ∀ (n : Nat) {f : Nat → Int}, Vd f → 0 ≤ suF n f ∧ suF n f ≤ n * 4194304
  | 0, _, _ => ⟨Int.le_refl _, by simp [suF]⟩
  | n + 1, f, hf => by
    rw [su_succ]
    have := bs_bd (f := f) (c := scF n f) (m := ((n + 1 : Nat) : Int) * 4194304) (by omega) 4 (fun d hd => by
      have h1 := slideS_bd hf d 4 (Nat.le_refl _)
      have h2 : 0 ≤ (wrF n (slideB f d)).v ∧ (wrF n (slideB f d)).v ≤ n * 4194304 := lsF_bd (by omega) fun p hp => su_bd n (plB_vd (slideB_vd hf d) (plA_ok.1 hp))
      unfold scF
      omega)
    exact ⟨this.1, this.2.1⟩
theorem wr_bd (n : Nat) {g : Nat → Int} (hg : Vd g) : 0 ≤ (wrF n g).v ∧ (wrF n g).v ≤ n * 4194304 := lsF_bd (by omega) fun p hp => su_bd n (plB_vd hg (plA_ok.1 hp))
theorem sc_bd (n : Nat) {f : Nat → Int} (hf : Vd f) (d : Nat) : 0 ≤ scF n f d ∧ scF n f d ≤ (n + 1) * 4194304 := by
  have h1 := slideS_bd hf d 4 (Nat.le_refl _)
  have h2 := wr_bd n (slideB_vd hf d)
  unfold scF
  omega
/-- What SureScore, BestSure and WorstReply return. -/
def SureOk (f : Nat → Int) (n : Int) : Prop := Vd f ∧ 0 ≤ n ∧ n ≤ 2
instance (f : Nat → Int) (n : Int) : Decidable (SureOk f n) := by unfold SureOk; infer_instance
def suR (f : Nat → Int) (n : Int) : Int := if SureOk f n then suF n.toNat f else 0
def suO (f : Nat → Int) (n : Int) : Bool := decide (SureOk f n)
theorem su_yes {f : Nat → Int} {n : Int} (h : SureOk f n) : suR f n = suF n.toNat f ∧ suO f n = true := by simp [suR, suO, h]
theorem su_no {f : Nat → Int} {n : Int} (h : ¬ SureOk f n) : suR f n = 0 ∧ suO f n = false := by simp [suR, suO, h]
def BestOk (f : Nat → Int) (n : Int) : Prop := Vd f ∧ 1 ≤ n ∧ n ≤ 2
instance (f : Nat → Int) (n : Int) : Decidable (BestOk f n) := by unfold BestOk; infer_instance
def beR (f : Nat → Int) (n : Int) : Bst := if BestOk f n then bbF (n.toNat - 1) f 4 else bs0
theorem be_yes {f : Nat → Int} {n : Int} (h : BestOk f n) : beR f n = bbF (n.toNat - 1) f 4 := by simp [beR, h]
theorem be_no {f : Nat → Int} {n : Int} (h : ¬ BestOk f n) : beR f n = bs0 := by simp [beR, h]
def RepOk (f : Nat → Int) (d n : Int) : Prop := SlideOk f d ∧ isMv f d.toNat = true ∧ 0 ≤ n ∧ n ≤ 1
instance (f : Nat → Int) (d n : Int) : Decidable (RepOk f d n) := by unfold RepOk; infer_instance
def rpR (f : Nat → Int) (d n : Int) : Lst := if RepOk f d n then wrF n.toNat (slideB f d.toNat) else ls0
theorem rp_yes {f : Nat → Int} {d n : Int} (h : RepOk f d n) : rpR f d n = wrF n.toNat (slideB f d.toNat) := by simp [rpR, h]
theorem rp_no {f : Nat → Int} {d n : Int} (h : ¬ RepOk f d n) : rpR f d n = ls0 := by simp [rpR, h]
def rpO (f : Nat → Int) (d n : Int) : Bool := decide (RepOk f d n)
end Go.Proofs.Ytfjpdopljmilpaa.Plain
