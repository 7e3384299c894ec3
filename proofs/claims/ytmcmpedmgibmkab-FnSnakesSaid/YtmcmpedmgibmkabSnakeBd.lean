/-
  Plain facts on the board of the same tiles that is in order along a snake. No program stands in this text.
-/
import Derived.Test.YtmcmpedmgibmkabSnakeOrd
namespace Go.Proofs.Ytmcmpedmgibmkab.Plain
/-- The numbers of a board, cell by cell. -/
def bdL (f : Nat → Int) : List Int := (List.range 16).map f
theorem cnt_list (f : Nat → Int) (v : Nat) : ∀ k, cntF f k v = ((((List.range k).map f).count (v : Int) : Nat) : Int)
  | 0 => by simp [cntF]
  | k + 1 => by
    rw [List.range_succ, List.map_append, List.count_append]
    show cntF f k v + (if f k = (v : Int) then 1 else 0) = _
    rw [cnt_list f v k]
    by_cases e : f k = (v : Int)
    · rw [if_pos e, List.map_cons, List.map_nil, e]; simp
    · rw [if_neg e, List.map_cons, List.map_nil, List.count_cons, List.count_nil, if_neg (by simpa using e)]; simp
def cnN (f : Nat → Int) (t : Nat) : Nat := (bdL f).count (t : Int)
theorem cn_cnt (f : Nat → Int) (t : Nat) : cntF f 16 t = (cnN f t : Int) := cnt_list f t 16
/-- The tiles of the numbers T .. 1, greater ones first. -/
def tlL (f : Nat → Int) : Nat → List Int
  | 0 => []
  | T + 1 => List.replicate (cnN f (T + 1)) ((T + 1 : Nat) : Int) ++ tlL f T
def xsL (f : Nat → Int) : List Int := tlL f 17 ++ List.replicate (cnN f 0) 0
theorem tl_bd (f : Nat → Int) : ∀ T x, x ∈ tlL f T → 1 ≤ x ∧ x ≤ (T : Int)
  | 0, x, h => by simp [tlL] at h
  | T + 1, x, h => by
    rcases List.mem_append.1 h with h | h
    · have := List.eq_of_mem_replicate h; omega
    · have := tl_bd f T x h; omega
theorem tl_count (f : Nat → Int) (v : Int) : ∀ T, (tlL f T).count v = if 1 ≤ v ∧ v ≤ (T : Int) then cnN f v.toNat else 0
  | 0 => by rw [if_neg (by omega)]; rfl
  | T + 1 => by
    show (List.replicate (cnN f (T + 1)) ((T + 1 : Nat) : Int) ++ tlL f T).count v = _
    rw [List.count_append, List.count_replicate, tl_count f v T]
    by_cases e : ((T + 1 : Nat) : Int) = v
    · rw [if_pos (by simpa using e), if_neg (by omega), if_pos (by omega), ← e, Int.toNat_natCast, Nat.add_zero]
    · rw [if_neg (by simpa using e), Nat.zero_add]
      by_cases h : 1 ≤ v ∧ v ≤ (T : Int)
      · rw [if_pos h, if_pos (by omega)]
      · rw [if_neg h, if_neg (by omega)]
theorem xs_perm {f : Nat → Int} (hf : Vd f) : (xsL f).Perm (bdL f) := by
  refine List.perm_iff_count.2 fun v => ?_
  unfold xsL
  rw [List.count_append, List.count_replicate, tl_count]
  by_cases h0 : (0 : Int) = v
  · rw [if_neg (by omega), if_pos (by simpa using h0), Nat.zero_add, ← h0]; rfl
  · have e0 : (if ((0 : Int) == v) = true then cnN f 0 else 0) = 0 := if_neg (by simpa using h0)
    rw [e0, Nat.add_zero]
    by_cases h : 1 ≤ v ∧ v ≤ ((17 : Nat) : Int)
    · rw [if_pos h]
      show (bdL f).count ((v.toNat : Nat) : Int) = _
      rw [Int.toNat_of_nonneg (by omega)]
    · rw [if_neg h]
      refine (List.count_eq_zero.2 fun hm => ?_).symm
      obtain ⟨i, hi, e⟩ := List.mem_map.1 hm
      have := hf i (List.mem_range.1 hi)
      omega
theorem tl_sorted (f : Nat → Int) : ∀ T, (tlL f T).Pairwise (fun a b => b ≤ a)
  | 0 => List.Pairwise.nil
  | T + 1 => by
    refine List.pairwise_append.2 ⟨?_, tl_sorted f T, fun a ha b hb => ?_⟩
    · exact List.pairwise_replicate.2 (Or.inr (Int.le_refl _))
    · have h1 := List.eq_of_mem_replicate ha
      have h2 := tl_bd f T b hb
      omega
theorem xs_sorted (f : Nat → Int) : (xsL f).Pairwise (fun a b => b ≤ a) := by
  refine List.pairwise_append.2 ⟨tl_sorted f 17, List.pairwise_replicate.2 (Or.inr (Int.le_refl _)), fun a ha b hb => ?_⟩
  have h1 := List.eq_of_mem_replicate hb
  have h2 := tl_bd f 17 a ha
  omega
theorem xs_len {f : Nat → Int} (hf : Vd f) : (xsL f).length = 16 := by rw [(xs_perm hf).length_eq]; simp [bdL]
def okQ (k : Nat) : Bool := ((List.range 16).map (plP k)).isPerm (List.range 16)
theorem okQ_all : (List.range 8).all okQ = true := by decide +kernel
theorem pl_perm {k : Nat} (hk : k < 8) : ((List.range 16).map (plP k)).Perm (List.range 16) := List.isPerm_iff.1 (all_at okQ_all hk)
theorem pl_bd {k : Nat} (hk : k < 8) (f : Nat → Int) : ((List.range 16).map fun i => f (plP k i)).Perm (bdL f) := by
  have h := (pl_perm hk).map f
  rw [List.map_map] at h
  exact h
theorem pl_inj {k i j : Nat} (hk : k < 8) (hi : i < 16) (hj : j < 16) (hne : i ≠ j) : plP k i ≠ plP k j := fun e => by
  have hn : ((List.range 16).map (plP k)).Nodup := (pl_perm hk).nodup_iff.2 List.nodup_range
  have h1 : ((List.range 16).map (plP k))[i]? = some (plP k i) := by simp [hi]
  have h2 : ((List.range 16).map (plP k))[j]? = some (plP k j) := by simp [hj]
  exact hne ((List.getElem?_inj (by simpa using hi) hn).1 (by rw [h1, h2, e]))
/-- The numbers are laid along the snake, the first n of them. -/
def ouF (k : Nat) (X : List Int) : Nat → Nat → Int
  | 0 => fun _ => 0
  | n + 1 => upd (ouF k X n) (plP k n) (X.getD n 0)
theorem ou_zero {k : Nat} (hk : k < 8) (X : List Int) : ∀ m j, m ≤ j → j < 16 → ouF k X m (plP k j) = 0
  | 0, _, _, _ => rfl
  | m + 1, j, h1, h2 => by
    show upd (ouF k X m) (plP k m) (X.getD m 0) (plP k j) = 0
    rw [upd_other _ _ (pl_inj hk h2 (by omega) (by omega)), ou_zero hk X m j (by omega) h2]
theorem ou_rest {k : Nat} (hk : k < 8) {X : List Int} {n : Nat} (h : ∀ j, n ≤ j → j < 16 → X.getD j 0 = 0) : ∀ m, n + m ≤ 16 → ∀ p, ouF k X (n + m) p = ouF k X n p
  | 0, _, _ => rfl
  | m + 1, hm, p => by
    show upd (ouF k X (n + m)) (plP k (n + m)) (X.getD (n + m) 0) p = _
    rw [h (n + m) (by omega) (by omega), ← ou_rest hk h m (by omega) p]
    unfold upd
    by_cases e : p = plP k (n + m)
    · rw [if_pos e, e, ou_zero hk X (n + m) (n + m) (Nat.le_refl _) (by omega)]
    · rw [if_neg e]
/-- What SnakeBoard returns. -/
def SbdOk (f : Nat → Int) (k : Int) : Prop := Vd f ∧ 0 ≤ k ∧ k ≤ 7
instance (f : Nat → Int) (k : Int) : Decidable (SbdOk f k) := by unfold SbdOk; infer_instance
def sbdO (f : Nat → Int) (k : Int) : Bool := decide (SbdOk f k)
def sbdR (f : Nat → Int) (k : Int) : Nat → Int := if SbdOk f k then ouF k.toNat (xsL f) 16 else fun _ => 0
theorem sbd_yes {f : Nat → Int} {k : Int} (h : SbdOk f k) : sbdO f k = true ∧ sbdR f k = ouF k.toNat (xsL f) 16 := ⟨decide_eq_true h, if_pos h⟩
theorem sbd_no {f : Nat → Int} {k : Int} (h : ¬ SbdOk f k) : sbdO f k = false ∧ sbdR f k = fun _ => 0 := ⟨decide_eq_false h, if_neg h⟩
end Go.Proofs.Ytmcmpedmgibmkab.Plain
