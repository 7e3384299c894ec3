/-
  Plain facts on the board that SnakeBoard makes, and on the cells of a snake. No program stands in this text.
-/
import Derived.Test.YtmcmpedmgibmkabSnakeBd
namespace Go.Proofs.Ytmcmpedmgibmkab.Plain
theorem ou_at {k : Nat} (hk : k < 8) (X : List Int) : ∀ m, m ≤ 16 → ∀ j, j < m → ouF k X m (plP k j) = X.getD j 0
  | 0, _, _, h => by omega
  | m + 1, hm, j, hj => by
    show upd (ouF k X m) (plP k m) (X.getD m 0) (plP k j) = _
    by_cases e : j = m
    · subst e; unfold upd; rw [if_pos rfl]
    · rw [upd_other _ _ (pl_inj hk (by omega) (by omega) e)]
      exact ou_at hk X m (by omega) j (by omega)
theorem pl_sur {k : Nat} (hk : k < 8) {p : Nat} (hp : p < 16) : ∃ j, j < 16 ∧ plP k j = p := by
  have h := (pl_perm hk).mem_iff.2 (List.mem_range.2 hp)
  obtain ⟨j, h1, h2⟩ := List.mem_map.1 h
  exact ⟨j, List.mem_range.1 h1, h2⟩
/-- The board that SnakeBoard makes. -/
def mdF (k : Nat) (f : Nat → Int) : Nat → Int := ouF k (xsL f) 16
theorem md_list {f : Nat → Int} (hf : Vd f) {k : Nat} (hk : k < 8) : ((List.range 16).map fun i => mdF k f (plP k i)) = xsL f := by
  apply List.ext_getElem
  · rw [List.length_map, List.length_range, xs_len hf]
  · intro i h1 h2
    have hi : i < 16 := by simpa using h1
    rw [List.getElem_map, List.getElem_range]
    unfold mdF
    rw [ou_at hk _ 16 (Nat.le_refl _) i hi, List.getD_eq_getElem?_getD, List.getElem?_eq_getElem h2]
    rfl
theorem md_perm {f : Nat → Int} (hf : Vd f) {k : Nat} (hk : k < 8) : (bdL (mdF k f)).Perm (bdL f) := by
  have h := pl_bd hk (mdF k f)
  rw [md_list hf hk] at h
  exact h.symm.trans (xs_perm hf)
theorem md_vd {f : Nat → Int} (hf : Vd f) {k : Nat} (hk : k < 8) : Vd (mdF k f) := fun i hi => by
  have h := (md_perm hf hk).mem_iff.1 (List.mem_map.2 ⟨i, List.mem_range.2 hi, rfl⟩)
  obtain ⟨j, h1, h2⟩ := List.mem_map.1 h
  rw [← h2]
  exact hf j (List.mem_range.1 h1)
theorem md_cn {f : Nat → Int} (hf : Vd f) {k : Nat} (hk : k < 8) (t : Nat) : cnN (mdF k f) t = cnN f t := (md_perm hf hk).count_eq _
theorem md_cnt {f : Nat → Int} (hf : Vd f) {k : Nat} (hk : k < 8) : cntF (mdF k f) 16 = cntF f 16 := by
  funext t
  rw [cn_cnt, cn_cnt, md_cn hf hk]
theorem tl_same {f g : Nat → Int} (h : ∀ t, cnN f t = cnN g t) : ∀ T, tlL f T = tlL g T
  | 0 => rfl
  | T + 1 => by
    show List.replicate (cnN f (T + 1)) _ ++ tlL f T = List.replicate (cnN g (T + 1)) _ ++ tlL g T
    rw [h, tl_same h T]
theorem md_xs {f : Nat → Int} (hf : Vd f) {k : Nat} (hk : k < 8) : xsL (mdF k f) = xsL f := by
  unfold xsL
  rw [tl_same (md_cn hf hk) 17, md_cn hf hk]
theorem md_again {f : Nat → Int} (hf : Vd f) {k : Nat} (hk : k < 8) : mdF k (mdF k f) = mdF k f := by
  show ouF k (xsL (mdF k f)) 16 = _
  rw [md_xs hf hk]; rfl
theorem ordG_all {h : Nat → Int} : ∀ n, (∀ m, m < n → h (m + 1) ≤ h m) → ordG h n = true
  | 0, _ => rfl
  | n + 1, H => ordG_yes (ordG_all n fun m hm => H m (by omega)) (H n (by omega))
theorem md_ord {f : Nat → Int} (hf : Vd f) {k : Nat} (hk : k < 8) : ordF (mdF k f) k = true := by
  refine ordG_all 15 fun m hm => ?_
  have hs := xs_sorted f
  rw [← md_list hf hk] at hs
  have h := List.pairwise_iff_getElem.1 hs m (m + 1) (by simp; omega) (by simp; omega) (by omega)
  rw [List.getElem_map, List.getElem_map, List.getElem_range, List.getElem_range] at h
  exact h
theorem sn_mem {Q : Nat → Bool} {k : Nat} (hq : Q k = true) : ∀ n, k < n → (k : Int) ∈ snG Q n
  | 0, h => by omega
  | n + 1, h => by
    by_cases e : k = n
    · subst e; rw [snG_yes hq]; exact List.mem_append_right _ (List.mem_singleton.2 rfl)
    · have := sn_mem hq n (by omega)
      by_cases hn : Q n = true
      · rw [snG_yes hn]; exact List.mem_append_left _ this
      · rw [snG_no (by simpa using hn)]; exact this
theorem sn_of {Q : Nat → Bool} {x : Int} : ∀ n, x ∈ snG Q n → ∃ k : Nat, x = k ∧ k < n ∧ Q k = true
  | 0, h => by simp [snG] at h
  | n + 1, h => by
    by_cases hn : Q n = true
    · rw [snG_yes hn] at h
      rcases List.mem_append.1 h with h | h
      · obtain ⟨k, h1, h2, h3⟩ := sn_of n h; exact ⟨k, h1, by omega, h3⟩
      · exact ⟨n, List.mem_singleton.1 h, by omega, hn⟩
    · rw [snG_no (by simpa using hn)] at h
      obtain ⟨k, h1, h2, h3⟩ := sn_of n h; exact ⟨k, h1, by omega, h3⟩
theorem md_mem {f : Nat → Int} (hf : Vd f) {k : Nat} (hk : k < 8) : (k : Int) ∈ snLR (mdF k f) := by
  rw [snLR_yes (md_vd hf hk)]; exact sn_mem (md_ord hf hk) 8 hk
theorem ord_le {h : Nat → Int} {n : Nat} (H : ordG h n = true) : ∀ d i, i + d ≤ n → h (i + d) ≤ h i
  | 0, _, _ => Int.le_refl _
  | d + 1, i, hd => by
    have h1 := ord_le H d i (by omega)
    have h2 := ordG_at H (i + d) (by omega)
    show h (i + d + 1) ≤ h i
    omega
theorem ord_same {f : Nat → Int} (hf : Vd f) {k : Nat} (hk : k < 8) (h : ordF f k = true) : ∀ p, p < 16 → mdF k f p = f p := by
  have hl : ((List.range 16).map fun i => f (plP k i)) = xsL f := by
    refine List.Perm.eq_of_pairwise (le := fun a b => b ≤ a) (fun a b _ _ h1 h2 => Int.le_antisymm h2 h1) ?_ (xs_sorted f) ((pl_bd hk f).trans (xs_perm hf).symm)
    refine List.pairwise_iff_getElem.2 fun i j hi hj hij => ?_
    have hj2 : j < 16 := by simpa using hj
    rw [List.getElem_map, List.getElem_map, List.getElem_range, List.getElem_range]
    have := ord_le h (j - i) i (by omega)
    rw [show i + (j - i) = j by omega] at this
    exact this
  intro p hp
  obtain ⟨j, hj, rfl⟩ := pl_sur hk hp
  have h1 := md_list hf hk
  rw [← hl] at h1
  have h2 := congrArg (fun L => L[j]?) h1
  simpa [hj] using h2
/-- Each cell of a snake lies beside the one ahead of it. -/
def okA (k : Nat) : Bool := (List.range 15).all fun i => decide ((((plP k (i + 1) / 4 : Nat) : Int) - ((plP k i / 4 : Nat) : Int)) * (((plP k (i + 1) / 4 : Nat) : Int) - ((plP k i / 4 : Nat) : Int)) + (((plP k (i + 1) % 4 : Nat) : Int) - ((plP k i % 4 : Nat) : Int)) * (((plP k (i + 1) % 4 : Nat) : Int) - ((plP k i % 4 : Nat) : Int)) = 1)
theorem okA_all : (List.range 8).all okA = true := by decide +kernel
theorem pl_beside {k i : Nat} (hk : k < 8) (hi : i < 15) : (((plP k (i + 1) / 4 : Nat) : Int) - ((plP k i / 4 : Nat) : Int)) * (((plP k (i + 1) / 4 : Nat) : Int) - ((plP k i / 4 : Nat) : Int)) + (((plP k (i + 1) % 4 : Nat) : Int) - ((plP k i % 4 : Nat) : Int)) * (((plP k (i + 1) % 4 : Nat) : Int) - ((plP k i % 4 : Nat) : Int)) = 1 := by
  have := all_at (P := fun i => decide ((((plP k (i + 1) / 4 : Nat) : Int) - ((plP k i / 4 : Nat) : Int)) * (((plP k (i + 1) / 4 : Nat) : Int) - ((plP k i / 4 : Nat) : Int)) + (((plP k (i + 1) % 4 : Nat) : Int) - ((plP k i % 4 : Nat) : Int)) * (((plP k (i + 1) % 4 : Nat) : Int) - ((plP k i % 4 : Nat) : Int)) = 1)) (all_at okA_all hk) hi
  exact of_decide_eq_true this
/-- The cells of a snake that were seen, up to the m-th. -/
def seF (k : Nat) : Nat → Nat → Bool
  | 0 => fun _ => false
  | m + 1 => fun p => if p = plP k m then true else seF k m p
theorem se_new {k : Nat} (hk : k < 8) : ∀ m j, m ≤ j → j < 16 → seF k m (plP k j) = false
  | 0, _, _, _ => rfl
  | m + 1, j, h1, h2 => by
    show (if plP k j = plP k m then true else seF k m (plP k j)) = false
    rw [if_neg (pl_inj hk h2 (by omega) (by omega)), se_new hk m j (by omega) h2]
end Go.Proofs.Ytmcmpedmgibmkab.Plain
