/-
  Plain facts on the different forms of a board, in order. No program stands in this text.
-/
import Derived.Test.YtpiegllffkjneaaFormPlain
import Derived.Test.YtpiegllffkjneaaOrder
namespace Go.Proofs.Ytpiegllffkjneaa.Plain
/-- The different ones among the first k forms, in order. -/
noncomputable def insF (f : Nat → Int) : Nat → List (List Int)
  | 0 => []
  | k + 1 => insL (lt 16) (insF f k) (cl 16 (formF f k))
theorem insF_mem (f : Nat → Int) : ∀ k x, x ∈ insF f k ↔ ∃ i, i < k ∧ x = cl 16 (formF f i)
  | 0, x => by simp [insF]
  | k + 1, x => by
    unfold insF
    rw [ins_mem, insF_mem f k x]
    constructor
    · rintro (⟨i, hi, e⟩ | e)
      · exact ⟨i, by omega, e⟩
      · exact ⟨k, by omega, e⟩
    · rintro ⟨i, hi, e⟩
      rcases (by omega : i < k ∨ i = k) with q | rfl
      · exact Or.inl ⟨i, q, e⟩
      · exact Or.inr e
theorem insF_len (f : Nat → Int) (k : Nat) : ∀ x, x ∈ insF f k → x.length = 16 := fun x hx => by
  obtain ⟨i, _, rfl⟩ := (insF_mem f k x).1 hx; exact cl_len _ _
theorem insF_le (f : Nat → Int) : ∀ k, (insF f k).length ≤ k
  | 0 => Nat.le_refl _
  | k + 1 => by
    have := insF_le f k
    unfold insF
    rw [ins_len]; split <;> omega
theorem insF_ss (f : Nat → Int) : ∀ k, SS (lt 16) (insF f k)
  | 0 => List.Pairwise.nil
  | k + 1 => by
    unfold insF
    exact ins_ss (lt 16) (fun x y z h1 h2 => lt_trans h1 h2) _ _ (fun x hx h1 h2 => lt_total (insF_len f k x hx) (cl_len _ _) h1 h2) (insF_ss f k)
/-- What FormsOf returns. -/
noncomputable def foR (f : Nat → Int) : List (List Int) := if Vd f then insF f 8 else []
theorem foR_yes {f : Nat → Int} (h : Vd f) : foR f = insF f 8 := by simp [foR, h]
theorem foR_no {f : Nat → Int} (h : ¬ Vd f) : foR f = [] := by simp [foR, h]
theorem foR_len (f : Nat → Int) : ∀ x, x ∈ foR f → x.length = 16 := fun x hx => by
  unfold foR at hx; split at hx
  · exact insF_len f 8 x hx
  · cases hx
theorem foR_le (f : Nat → Int) : (foR f).length ≤ 8 := by
  unfold foR; split
  · exact insF_le f 8
  · exact Nat.zero_le _
/-- All eight forms. -/
def frm8 (f : Nat → Int) : List (List Int) := (List.range 8).map fun k => cl 16 (formF f k)
theorem frm8_len (f : Nat → Int) : (frm8 f).length = 8 := by simp [frm8]
theorem frm8_at (f : Nat → Int) {k : Nat} (hk : k < 8) : (frm8 f)[k]? = some (cl 16 (formF f k)) := by simp [frm8, hk]
theorem frm8_mem (f : Nat → Int) (x : List Int) : x ∈ frm8 f ↔ ∃ i, i < 8 ∧ x = cl 16 (formF f i) := by
  unfold frm8
  rw [List.mem_map]
  constructor
  · rintro ⟨i, hi, e⟩; exact ⟨i, List.mem_range.1 hi, e.symm⟩
  · rintro ⟨i, hi, e⟩; exact ⟨i, List.mem_range.2 hi, e.symm⟩
/-- Lists put in order, without what is the same as the one ahead: the same list as that of all put in one by one. -/
theorem ded_sorted {n : Nat} (L I : List (List Int)) (hl : ∀ x, x ∈ L → x.length = n) (hI : SS (lt n) I) (hm : ∀ x, x ∈ L ↔ x ∈ I) :
    dedN (L.mergeSort fun x y => !lt n y x) L.length = I := by
  have hlen : (L.mergeSort fun x y => !lt n y x).length = L.length := List.length_mergeSort _
  have hmem : ∀ x, x ∈ (L.mergeSort fun x y => !lt n y x) ↔ x ∈ L := fun x => List.mem_mergeSort
  have hnt : ∀ x y z : List Int, x.length = n → y.length = n → lt n y x = false → lt n y z = true → lt n x z = true ∨ x = y := fun x y z hx hy h1 h2 => by
    rcases h : lt n x y with _ | _
    · exact Or.inr (lt_total hx hy h h1)
    · exact Or.inl (lt_trans h h2)
  refine ss_unique (lt n) (lt_irrefl n) (fun x y z h1 h2 => lt_trans h1 h2) _ _ ?_ hI fun x => ?_
  · refine ded_ss (lt n) (fun x y z h1 h2 => lt_trans h1 h2) _ (fun x y hx hy h1 h2 => lt_total (hl x ((hmem x).1 hx)) (hl y ((hmem y).1 hy)) h1 h2) (fun x y z hx hy hz h1 h2 => hnt x y z (hl x ((hmem x).1 hx)) (hl y ((hmem y).1 hy)) h1 h2) ?_ _
    have ht : ∀ a b c : {l : List Int // l.length = n}, (!lt n b.1 a.1) = true → (!lt n c.1 b.1) = true → (!lt n c.1 a.1) = true := fun a b c h1 h2 => by
      simp only [Bool.not_eq_true'] at *
      rcases h : lt n c.1 a.1 with _ | _
      · rfl
      · rcases h3 : lt n a.1 b.1 with _ | _
        · have := lt_total a.2 b.2 h3 h1
          rw [this, h2] at h; cases h
        · have := lt_trans h h3; rw [h2] at this; cases this
    have hto : ∀ a b : {l : List Int // l.length = n}, ((!lt n b.1 a.1) || (!lt n a.1 b.1)) = true := fun a b => by
      rcases h : lt n b.1 a.1 with _ | _
      · rfl
      · rw [lt_asym h]; rfl
    have hs := List.pairwise_mergeSort (le := fun a b : {l : List Int // l.length = n} => !lt n b.1 a.1) (fun a b c => ht a b c) hto (L.attach.map fun x => ⟨x.1, hl x.1 x.2⟩)
    have hmap : ((L.attach.map fun x => (⟨x.1, hl x.1 x.2⟩ : {l : List Int // l.length = n})).mergeSort fun a b => !lt n b.1 a.1).map (·.1) = L.mergeSort fun x y => !lt n y x := by
      rw [List.map_mergeSort (s := fun x y => !lt n y x) (fun a _ b _ => rfl), List.map_map]
      congr 1
      exact List.attach_map_subtype_val L
    rw [← hmap, List.pairwise_map]
    exact hs
  · rw [ded_mem, ← hm, ← hmem]
    constructor
    · rintro ⟨i, _, e⟩; exact List.mem_of_getElem? e
    · intro hx
      obtain ⟨i, hi⟩ := List.getElem?_of_mem hx
      exact ⟨i, by have := (List.getElem?_eq_some_iff.1 hi).1; rw [hlen] at this; exact this, hi⟩
theorem forms_ded (f : Nat → Int) : dedN ((frm8 f).mergeSort fun x y => !lt 16 y x) 8 = insF f 8 := by
  have := ded_sorted (n := 16) (frm8 f) (insF f 8) (fun x hx => by obtain ⟨i, _, rfl⟩ := (frm8_mem f x).1 hx; exact cl_len _ _) (insF_ss f 8) (fun x => (frm8_mem f x).trans (insF_mem f 8 x).symm)
  rw [frm8_len] at this
  exact this
end Go.Proofs.Ytpiegllffkjneaa.Plain
