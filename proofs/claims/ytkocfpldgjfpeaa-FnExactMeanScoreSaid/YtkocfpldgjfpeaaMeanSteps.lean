/-
  Plain facts on means told by the steps of a direction. No program stands in this text.
-/
import Derived.Test.YtkocfpldgjfpeaaMeanPlain
import Derived.Test.YtkocfpldgjfpeaaNextPlain
set_option linter.unusedSimpArgs false
namespace Go.Proofs.Ytkocfpldgjfpeaa.Plain
/-- The placement of the step k with a direction. -/
def psF (S : Nat → Int) (k : Nat) : Nat × Nat := ((emI S 16).getD (k / 2) 0, 1 + k % 2)
theorem flat_range (E : List Nat) : (E.flatMap fun j => [(j, 1), (j, 2)] : List (Nat × Nat)) = (List.range (E.length * 2)).map fun k => (E.getD (k / 2) 0, 1 + k % 2) := by
  refine list_snoc (fun E => (E.flatMap fun j => [(j, 1), (j, 2)] : List (Nat × Nat)) = (List.range (E.length * 2)).map fun k => (E.getD (k / 2) 0, 1 + k % 2)) rfl (fun E x ih => ?_) E
  rw [List.flatMap_append, ih, List.length_append, List.length_singleton, Nat.add_mul, Nat.one_mul, List.range_succ, List.range_succ, List.map_append, List.map_append, List.append_assoc]
  congr 1
  · refine List.map_congr_left fun k hk => ?_
    have hk := List.mem_range.1 hk
    rw [List.getD_eq_getElem?_getD, List.getD_eq_getElem?_getD, List.getElem?_append_left (by omega)]
  · have h1 : E.length * 2 / 2 = E.length := by omega
    have h2 : (E.length * 2 + 1) / 2 = E.length := by omega
    have h3 : E.length * 2 % 2 = 0 := by omega
    have h4 : (E.length * 2 + 1) % 2 = 1 := by omega
    simp [h1, h2, h3, h4]
theorem pl_range (S : Nat → Int) : plA S = (List.range (empN S 16 * 2)).map (psF S) := by
  unfold plA
  rw [flat_range, emI_len]
  rfl
theorem ps_ok {S : Nat → Int} {k : Nat} (hk : k < empN S 16 * 2) : PlOk S (psF S k) := plA_ok.1 (by rw [pl_range]; exact List.mem_map.2 ⟨k, List.mem_range.2 hk, rfl⟩)
theorem stps_at (d : Int) (E : Nat → Int) : ∀ (n k : Nat), k < n * 2 → (stps d E n)[k]? = some (cl 4 (stp d E (k / 2) ((1 + k % 2 : Nat) : Int)))
  | 0, k, h => by omega
  | n + 1, k, h => by
    have hl := stps_len d E n
    show (stps d E n ++ [cl 4 (stp d E n 1), cl 4 (stp d E n 2)])[k]? = _
    by_cases hk : k < n * 2
    · rw [List.getElem?_append_left (by omega)]; exact stps_at d E n k hk
    · rw [List.getElem?_append_right (by omega), hl]
      rcases (by omega : k = n * 2 ∨ k = n * 2 + 1) with rfl | rfl
      · rw [show n * 2 - n * 2 = 0 by omega, show n * 2 / 2 = n by omega, show n * 2 % 2 = 0 by omega]; rfl
      · rw [show n * 2 + 1 - n * 2 = 1 by omega, show (n * 2 + 1) / 2 = n by omega, show (n * 2 + 1) % 2 = 1 by omega]; rfl
theorem mv_same {f : Nat → Int} {d : Nat} (h : isMv f d = true) : sameB (slideB f d) f = false := by unfold isMv at h; simpa using h
theorem mv_len {f : Nat → Int} {d : Nat} (h : isMv f d = true) : (stepL f d).length = empN (slideB f d) 16 * 2 := by rw [step_move (mv_same h), stps_len]
theorem step_pl {f : Nat → Int} {d k : Nat} (hd : d < 4) (hm : isMv f d = true) (hk : k < (stepL f d).length) :
    ∃ l, (stepL f d)[k]? = some l ∧ doB f (fn l) = plB (slideB f d) (psF (slideB f d) k) ∧ fn l 3 = ((1 + k % 2 : Nat) : Int) ∧ PlOk (slideB f d) (psF (slideB f d) k) := by
  have hlen := mv_len hm
  have hk2 : k < empN (slideB f d) 16 * 2 := by omega
  have hpo := ps_ok (S := slideB f d) hk2
  refine ⟨_, by rw [step_move (mv_same hm)]; exact stps_at _ _ _ k hk2, ?_, rfl, hpo⟩
  obtain ⟨j, hx, hj, h0, h1, h2⟩ := emI_at (slideB f d) 16 (k / 2) (by omega)
  have hok : StepOk f (stp (d : Int) (empF (slideB f d)) (k / 2) ((1 + k % 2 : Nat) : Int)) := stp_ok hd (mv_same hm) (by omega) (by omega)
  have e1 : doB f (fn (cl 4 (stp (d : Int) (empF (slideB f d)) (k / 2) ((1 + k % 2 : Nat) : Int)))) = doB f (stp (d : Int) (empF (slideB f d)) (k / 2) ((1 + k % 2 : Nat) : Int)) := (do_congr fun i hi => by
    rcases (by omega : i = 0 ∨ i = 1 ∨ i = 2 ∨ i = 3) with rfl | rfl | rfl | rfl <;> rfl).1
  rw [e1, (do_yes hok).1]
  have e2 : placeAt (cellS (stp (d : Int) (empF (slideB f d)) (k / 2) ((1 + k % 2 : Nat) : Int))) = j := by
    have a1 : cellS (stp (d : Int) (empF (slideB f d)) (k / 2) ((1 + k % 2 : Nat) : Int)) 0 = ((j / 4 : Nat) : Int) := h1
    have a2 : cellS (stp (d : Int) (empF (slideB f d)) (k / 2) ((1 + k % 2 : Nat) : Int)) 1 = ((j % 4 : Nat) : Int) := h2
    unfold placeAt; rw [a1, a2]; omega
  have e3 : (stp (d : Int) (empF (slideB f d)) (k / 2) ((1 + k % 2 : Nat) : Int) 0).toNat = d := by show (d : Int).toNat = d; omega
  rw [e2, e3]
  unfold plB psF
  rw [List.getD_eq_getElem?_getD, hx]
  rfl
/-- A sum of n numbers. -/
def suN (a : Nat → Nat) : Nat → Nat
  | 0 => 0
  | k + 1 => suN a k + a k
theorem suN_range (a : Nat → Nat) : ∀ n, ((List.range n).map a).sum = suN a n
  | 0 => rfl
  | n + 1 => by rw [List.range_succ, List.map_append, List.sum_append, suN_range a n]; simp [suN]
theorem suN_congr {a b : Nat → Nat} : ∀ n, (∀ k, k < n → a k = b k) → suN a n = suN b n
  | 0, _ => rfl
  | n + 1, h => by unfold suN; rw [suN_congr n (fun k hk => h k (by omega)), h n (by omega)]
theorem suN_le {a : Nat → Nat} {m : Nat} : ∀ n, (∀ k, k < n → a k ≤ m) → suN a n ≤ n * m
  | 0, _ => by simp [suN]
  | n + 1, h => by have h1 := suN_le n (fun k hk => h k (by omega)); have h2 := h n (by omega); unfold suN; rw [Nat.add_mul]; omega
theorem suN_mono {a : Nat → Nat} {k n : Nat} (h : k ≤ n) : suN a k ≤ suN a n := by
  induction n with
  | zero => obtain rfl : k = 0 := by omega
            exact Nat.le_refl _
  | succ n ih =>
    rcases (by omega : k = n + 1 ∨ k ≤ n) with rfl | h
    · exact Nat.le_refl _
    · exact Nat.le_trans (ih h) (Nat.le_add_right _ _)
/-- The weight of a tile. -/
def wtI (t : Int) : Nat := if t = 1 then 9 else 1
theorem wtI_le (t : Int) : 1 ≤ wtI t ∧ wtI t ≤ 9 := by unfold wtI; split <;> omega
theorem wt_ps (S : Nat → Int) (k : Nat) : wtP (psF S k) = wtI ((1 + k % 2 : Nat) : Int) := by
  unfold wtP wtI psF
  rcases (by omega : k % 2 = 0 ∨ k % 2 = 1) with h | h <;> rw [h] <;> rfl
/-- All weights together are ten times the empty cells; the numbers with their weights are those of the placements. -/
theorem wt_sum (S : Nat → Int) : suN (fun k => wtP (psF S k)) (empN S 16 * 2) = 10 * empN S 16 := by
  rw [← wtL_all, pl_range]
  unfold wtL
  rw [List.map_map, ← suN_range]
  rfl
theorem sm_sum (T : (Nat → Int) → Fc) (S : Nat → Int) (D : Nat) : suN (fun k => tpN T S D (psF S k) * wtP (psF S k)) (empN S 16 * 2) = smL T S D (plA S) := by
  rw [pl_range]
  unfold smL
  rw [List.map_map, ← suN_range]
  rfl
/-- What the reference's mean of whole numbers is. -/
theorem mean_num {T : (Nat → Int) → Fc} {M : Nat} {S : Nat → Int} {u : Nat → Nat} {n : Nat} (h : Den 1 M T S) (hE : 0 < empN S 16) (hn : n = empN S 16 * 2) (hu : ∀ k, k < n → T (plB S (psF S k)) = (u k, 1)) :
    rd (suN (fun k => wtP (psF S k) * u k) n) (suN (fun k => wtP (psF S k)) n) = mnF T S := by
  subst hn
  rw [(mnF_rd h hE).1, wt_sum, ← sm_sum, Nat.one_mul]
  congr 1
  refine suN_congr _ fun k hk => ?_
  unfold tpN
  rw [hu k hk]
  show wtP (psF S k) * u k = u k * (1 / 1) * wtP (psF S k)
  rw [Nat.div_self Nat.one_pos, Nat.mul_one, Nat.mul_comm]
/-- The reference's sum of parts. -/
def ptF (s0 : Fc) (T : (Nat → Int) → Fc) (S : Nat → Int) (W : Nat) : Nat → Fc
  | 0 => s0
  | k + 1 => plusF (ptF s0 T S W k) (partF (T (plB S (psF S k))) (wtP (psF S k)) W)
theorem pt_rd {D M : Nat} {T : (Nat → Int) → Fc} {S : Nat → Int} {W c : Nat} (h : Den D M T S) (hW : 0 < W) {s0 : Fc} (h0 : s0 = rd c (D * W)) : ∀ k, k ≤ empN S 16 * 2 →
    ptF s0 T S W k = rd (c + suN (fun i => tpN T S D (psF S i) * wtP (psF S i)) k) (D * W)
  | 0, _ => h0
  | k + 1, hk => by
    have hp := ps_ok (S := S) (k := k) (by omega)
    have e := (h.at hp).1
    show plusF (ptF s0 T S W k) (partF (T (plB S (psF S k))) (wtP (psF S k)) W) = _
    rw [pt_rd h hW h0 k (by omega), e, part_rd h.D_pos hW, plus_rd (Nat.mul_pos h.D_pos hW)]
    show rd (c + suN _ k + _) _ = _
    rw [Nat.add_assoc]
    rfl
/-- Bounds for a part and for the sum before it. -/
theorem pt_bd {D M : Nat} {T : (Nat → Int) → Fc} {S : Nat → Int} {c : Nat} (h : Den D M T S) (hE : 0 < empN S 16) {s0 : Fc} (h0 : s0 = rd c (D * (10 * empN S 16))) {k : Nat} (hk : k ≤ empN S 16 * 2) :
    FcOk (ptF s0 T S (10 * empN S 16) k) ∧ (ptF s0 T S (10 * empN S 16) k).2 ≤ D * 160 ∧ (ptF s0 T S (10 * empN S 16) k).1 ≤ c + M * (D * 160) := by
  have hW : 0 < 10 * empN S 16 := by omega
  have hle := empN_le S 16
  rw [pt_rd h hW h0 k hk]
  refine ⟨rd_ok (Nat.mul_pos h.D_pos hW), Nat.le_trans (rd_le2 _ _) (Nat.mul_le_mul_left _ (by omega)), Nat.le_trans (rd_le1 _ _) (Nat.add_le_add_left ?_ _)⟩
  refine Nat.le_trans (suN_mono hk) ?_
  rw [sm_sum]
  refine Nat.le_trans (mnF_rd h hE).2 (Nat.mul_le_mul_left _ (Nat.mul_le_mul_left _ (by omega)))
theorem pt_part {D M : Nat} {T : (Nat → Int) → Fc} {S : Nat → Int} (h : Den D M T S) (hE : 0 < empN S 16) {k : Nat} (hk : k < empN S 16 * 2) :
    FcOk (T (plB S (psF S k))) ∧ (T (plB S (psF S k))).2 ≤ D ∧ (T (plB S (psF S k))).1 ≤ M * D ∧ FcOk (partF (T (plB S (psF S k))) (wtP (psF S k)) (10 * empN S 16)) ∧ (partF (T (plB S (psF S k))) (wtP (psF S k)) (10 * empN S 16)).2 ≤ D * 160 ∧ (partF (T (plB S (psF S k))) (wtP (psF S k)) (10 * empN S 16)).1 ≤ M * D * 9 := by
  have hp := ps_ok hk
  have hle := empN_le S 16
  obtain ⟨e1, e2⟩ := h.at hp
  have hw := wtP_le (psF S k)
  have a2 : (T (plB S (psF S k))).2 ≤ D := Nat.le_of_dvd h.D_pos (h.dvd _ hp)
  refine ⟨h.ok _ hp, a2, ?_, ?_, ?_, ?_⟩
  · rw [e1]; exact Nat.le_trans (rd_le1 _ _) e2
  · rw [e1, part_rd h.D_pos (by omega)]; exact rd_ok (Nat.mul_pos h.D_pos (by omega))
  · rw [e1, part_rd h.D_pos (by omega)]; exact Nat.le_trans (rd_le2 _ _) (Nat.mul_le_mul_left _ (by omega))
  · rw [e1, part_rd h.D_pos (by omega)]; exact Nat.le_trans (rd_le1 _ _) (Nat.mul_le_mul e2 hw.2)
theorem pt_mean {D M : Nat} {T : (Nat → Int) → Fc} {S : Nat → Int} (h : Den D M T S) (hE : 0 < empN S 16) : ptF (0, 1) T S (10 * empN S 16) (empN S 16 * 2) = mnF T S := by
  have hW : 0 < 10 * empN S 16 := by omega
  rw [pt_rd (c := 0) h hW (rd_zero (Nat.mul_pos h.D_pos hW)).symm _ (Nat.le_refl _), (mnF_rd h hE).1, Nat.zero_add, sm_sum]
theorem pt_score {D M : Nat} {T : (Nat → Int) → Fc} {S : Nat → Int} (h : Den D M T S) (hE : 0 < empN S 16) (c : Nat) : ptF (c, 1) T S (10 * empN S 16) (empN S 16 * 2) = plusF (c, 1) (mnF T S) := by
  have hW : 0 < 10 * empN S 16 := by omega
  have hQ := Nat.mul_pos h.D_pos hW
  have e : (c, 1) = rd (c * (D * (10 * empN S 16))) (D * (10 * empN S 16)) := by
    rw [← rd_one c]
    exact rd_congr Nat.one_pos hQ (by simp [Nat.mul_comm, Nat.mul_left_comm, Nat.mul_assoc])
  rw [pt_rd h hW e _ (Nat.le_refl _), (mnF_rd h hE).1, e, plus_rd hQ, sm_sum]
end Go.Proofs.Ytkocfpldgjfpeaa.Plain
