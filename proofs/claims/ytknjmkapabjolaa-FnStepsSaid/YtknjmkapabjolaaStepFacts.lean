/-
  Plain facts on steps: what a step does to the sum, what takes the new tile away again, how many boards the steps of one side lead to. No program stands in this text.
-/
import Derived.Test.YtknjmkapabjolaaNextPlain
import Derived.Test.YtknjmkapabjolaaPlainA
import Derived.Test.YtknjmkapabjolaaLenPlain
namespace Go.Proofs.Ytknjmkapabjolaa.Plain

theorem sum_upd (g : Nat → Int) (p : Nat) (t : Int) : ∀ k, sumF (upd g p t) k = if p < k then sumF g k - worthZ (g p) + worthZ t else sumF g k
  | 0 => by simp [sumF]
  | k + 1 => by
    have ih := sum_upd g p t k
    show sumF (upd g p t) k + worthZ (upd g p t k) = _
    rw [ih]
    by_cases h : p < k
    · rw [if_pos h, if_pos (by omega), upd_other _ _ (by omega)]
      show _ = (sumF g k + worthZ (g k)) - worthZ (g p) + worthZ t
      omega
    · by_cases e : p = k
      · subst e
        rw [if_neg h, if_pos (by omega), upd_same]
        show _ = (sumF g p + worthZ (g p)) - worthZ (g p) + worthZ t
        omega
      · rw [if_neg h, if_neg (by omega), upd_other _ _ (by omega)]
        rfl
theorem worth12 {t : Int} (h0 : 1 ≤ t) (h1 : t ≤ 2) : worthZ t = 2 * t := by
  obtain rfl | rfl : t = 1 ∨ t = 2 := by omega
  · decide
  · decide
theorem cellS_lt {s : Nat → Int} (h : CellIn (cellS s)) : placeAt (cellS s) < 16 := by
  obtain ⟨⟨h0, h1⟩, h2, h3⟩ := h
  unfold placeAt; omega
/-- What is known behind a step. -/
theorem do_facts {u s : Nat → Int} (h : doRO u s = true) : Vd u ∧ slideRO u (s 0) = true ∧ slideRS u (s 0) = doRS u s ∧ Vd (doRB u s) ∧ sumR (doRB u s) = sumR u + 2 * s 3 ∧ 0 ≤ sumR u ∧ sumR u ≤ 4194304 ∧ 1 ≤ s 3 ∧ s 3 ≤ 2 ∧
    takeO (doRB u s) (cellS s) = true ∧ (∀ j, j < 16 → takeB (doRB u s) (cellS s) j = slideRB u (s 0) j) ∧ takeT (doRB u s) (cellS s) = s 3 ∧ sameB (slideRB u (s 0)) u = false := by
  have hV : Vd u := by
    by_cases hV : Vd u
    · exact hV
    · rw [(doR_no hV).2.2] at h; cases h
  obtain ⟨r1, r2, r3⟩ := doR_yes (s := s) hV
  rw [r3] at h
  have hS : StepOk u s := of_decide_eq_true h
  obtain ⟨y1, y2, _⟩ := do_yes hS
  have hvd := do_vd (s := s) hV
  rw [r1, r2]
  rw [y1] at hvd ⊢
  rw [y2]
  obtain ⟨hd, hc, ht, hm, h0⟩ := hS
  have hp := cellS_lt hc
  obtain ⟨z1, z2, z3, _⟩ := slide_yes (f := u) (d := s 0) ⟨hV, hd.1, hd.2⟩
  rw [z1, z2, z3]
  have hk : TakeOk (upd (slideB u (s 0).toNat) (placeAt (cellS s)) (s 3)) (cellS s) := ⟨hvd, hc, by rw [upd_same]; omega⟩
  obtain ⟨t1, t2, t3⟩ := take_yes hk
  rw [t1, t2, t3]
  have hs := sumF_bd hV 16 (Nat.le_refl _)
  have e1 : sumR u = sumF u 16 := if_pos hV
  have e2 : sumR (upd (slideB u (s 0).toNat) (placeAt (cellS s)) (s 3)) = sumF (upd (slideB u (s 0).toNat) (placeAt (cellS s)) (s 3)) 16 := if_pos hvd
  have w0 : worthZ 0 = 0 := by decide
  refine ⟨hV, rfl, rfl, hvd, ?_, by rw [e1]; exact hs.1, by rw [e1]; have := hs.2; omega, ht.1, ht.2, rfl, fun j hj => ?_, upd_same _ _ _, hm⟩
  · rw [e2, e1, sum_upd, if_pos hp, h0, sum_slide hV (d := (s 0).toNat) (by omega), w0, worth12 ht.1 ht.2]; omega
  · by_cases e : j = placeAt (cellS s)
    · subst e; rw [upd_same, h0]
    · rw [upd_other _ _ e, upd_other _ _ e]
/-- The place of the empty cell number i. -/
def plE (f : Nat → Int) (k i : Nat) : Nat := ((empL f k).getD (i * 2) 0).toNat * 4 + ((empL f k).getD (i * 2 + 1) 0).toNat
theorem plE_lt {f : Nat → Int} {k i : Nat} (h : i < empN f k) : plE f k i < k ∧ f (plE f k i) = 0 := by
  obtain ⟨j, hj, h0, e1, e2⟩ := emp_in f k i h
  have e : plE f k i = j := by unfold plE; rw [e1, e2]; omega
  rw [e]; exact ⟨hj, h0⟩
theorem plE_mono (f : Nat → Int) : ∀ k i l, i < l → l < empN f k → plE f k i < plE f k l
  | 0, i, l, _, h => by simp [empN] at h
  | k + 1, i, l, hil, h => by
    have hlen := emp_len f k
    by_cases h0 : f k = 0
    · obtain ⟨e1, e2⟩ := emp_yes h0
      rw [e2] at h
      have old : ∀ m, m < empN f k → plE f (k + 1) m = plE f k m := fun m hm => by
        unfold plE
        rw [e1, getD_left (by omega), getD_left (by omega)]
      by_cases hl : l < empN f k
      · rw [old i (by omega), old l hl]; exact plE_mono f k i l hil hl
      · have e : l = empN f k := by omega
        have n1 : plE f (k + 1) l = k := by
          unfold plE
          rw [e1, getD_right (k := 0) (by omega), getD_right (k := 1) (by omega)]
          simp only [List.getD_cons_zero, List.getD_cons_succ, Int.toNat_natCast]
          omega
        rw [n1, old i (by omega)]
        exact (plE_lt (by omega)).1
    · obtain ⟨e1, e2⟩ := emp_no h0
      rw [e2] at h
      have old : ∀ m, plE f (k + 1) m = plE f k m := fun m => by unfold plE; rw [e1]
      rw [old, old]; exact plE_mono f k i l hil h
theorem plE_inj {f : Nat → Int} {k i l : Nat} (hi : i < empN f k) (hl : l < empN f k) (h : plE f k i = plE f k l) : i = l := by
  rcases Nat.lt_trichotomy i l with q | q | q
  · have := plE_mono f k i l q hl; omega
  · exact q
  · have := plE_mono f k l i q hi; omega
/-- The board behind a step of one side. -/
theorem do_stp {f : Nat → Int} {d i : Nat} {t : Int} (hd : d < 4) (hm : sameB (slideB f d) f = false) (hi : i < empN (slideB f d) 16) (ht : 1 ≤ t ∧ t ≤ 2) :
    doB f (fn (cl 4 (stp (d : Int) (empF (slideB f d)) i t))) = upd (slideB f d) (plE (slideB f d) 16 i) t := by
  rw [(do_congr (fn_cl (n := 4) (stp (d : Int) (empF (slideB f d)) i t))).1, (do_yes (stp_ok hd hm hi ht)).1]
  rfl
theorem upd_inj {g : Nat → Int} {p q : Nat} {t v : Int} (hp : p < 16) (h0 : g p = 0) (ht : t ≠ 0) (h : cl 16 (upd g p t) = cl 16 (upd g q v)) : p = q ∧ t = v := by
  have e := cl_inj.1 h p hp
  rw [upd_same] at e
  by_cases hpq : p = q
  · subst hpq; rw [upd_same] at e; exact ⟨rfl, e⟩
  · rw [upd_other _ _ hpq, h0] at e; exact absurd e ht
theorem boards_nodup {f : Nat → Int} {d : Nat} (hd : d < 4) (hm : sameB (slideB f d) f = false) : ∀ n, n ≤ empN (slideB f d) 16 →
    ((stps (d : Int) (empF (slideB f d)) n).map fun l => cl 16 (doB f (fn l))).Nodup
  | 0, _ => List.nodup_nil
  | n + 1, hn => by
    have ih := boards_nodup hd hm n (by omega)
    have e1 := do_stp (t := 1) hd hm (show n < _ from hn) ⟨by omega, by omega⟩
    have e2 := do_stp (t := 2) hd hm (show n < _ from hn) ⟨by omega, by omega⟩
    have hq := plE_lt (show n < empN (slideB f d) 16 from hn)
    show (((stps (d : Int) (empF (slideB f d)) n) ++ [cl 4 (stp (d : Int) (empF (slideB f d)) n 1), cl 4 (stp (d : Int) (empF (slideB f d)) n 2)]).map _).Nodup
    rw [List.map_append, List.nodup_append]
    refine ⟨ih, ?_, ?_⟩
    · simp only [List.map_cons, List.map_nil, e1, e2, List.nodup_cons, List.mem_singleton, List.not_mem_nil, not_false_eq_true, List.nodup_nil, and_true]
      intro e
      have := (upd_inj hq.1 hq.2 (by omega) e).2
      omega
    · intro x hx y hy e
      subst e
      obtain ⟨l, hl, rfl⟩ := List.mem_map.1 hx
      simp only [List.map_cons, List.map_nil, e1, e2, List.mem_cons, List.not_mem_nil, or_false] at hy
      obtain ⟨i, hi, hh⟩ := stps_mem hl
      have hqi := plE_lt (show i < empN (slideB f d) 16 by omega)
      have key : ∀ t : Int, 1 ≤ t ∧ t ≤ 2 → ∀ v : Int, cl 16 (upd (slideB f d) (plE (slideB f d) 16 i) t) ≠ cl 16 (upd (slideB f d) (plE (slideB f d) 16 n) v) := fun t ht v e => by
        have := plE_inj (by omega) (show n < _ from hn) (upd_inj hqi.1 hqi.2 (by omega) e).1
        omega
      rcases hh with rfl | rfl
      · rw [do_stp hd hm (by omega) ⟨by omega, by omega⟩] at hy
        rcases hy with hy | hy
        · exact key 1 ⟨by omega, by omega⟩ _ hy
        · exact key 1 ⟨by omega, by omega⟩ _ hy
      · rw [do_stp hd hm (by omega) ⟨by omega, by omega⟩] at hy
        rcases hy with hy | hy
        · exact key 2 ⟨by omega, by omega⟩ _ hy
        · exact key 2 ⟨by omega, by omega⟩ _ hy
theorem nextI_mem (f : Nat → Int) (L : List (List Int)) : ∀ (k i : Nat) (l : List Int), i < k → L[i]? = some l → cl 16 (doB f (fn l)) ∈ nextI f L k
  | 0, i, l, h, _ => by omega
  | k + 1, i, l, h, hl => by
    by_cases e : i = k
    · subst e; rw [nextI_step hl]; exact (ins_mem _ _ _ _).2 (.inr rfl)
    · have ih := nextI_mem f L k i l (by omega) hl
      rcases hk : L[k]? with _ | x
      · have : nextI f L (k + 1) = nextI f L k := by simp only [nextI, hk]
        rw [this]; exact ih
      · rw [nextI_step hk]; exact (ins_mem _ _ _ _).2 (.inl ih)
theorem all_has {f : Nat → Int} {d : Nat} {x : List Int} (h : x ∈ stepL f d) : ∀ k, d < k → x ∈ allL f k
  | 0, hk => by omega
  | k + 1, hk => by
    by_cases e : d = k
    · subst e; exact List.mem_append.2 (.inr h)
    · exact List.mem_append.2 (.inl (all_has h k (by omega)))
theorem many_steps (f : Nat → Int) {d : Nat} (hd : d < 4) : (stepL f d).length ≤ (nextI f (allL f 4) (allL f 4).length).length := by
  cases hm : sameB (slideB f d) f with
  | true => rw [step_same hm]; exact Nat.zero_le _
  | false =>
    have hn := boards_nodup hd hm _ (Nat.le_refl _)
    rw [← step_move hm] at hn
    have := len_sub _ (nextI f (allL f 4) (allL f 4).length) hn fun x hx => by
      obtain ⟨l, hl, rfl⟩ := List.mem_map.1 hx
      obtain ⟨i, hi, e⟩ := List.getElem_of_mem (all_has hl 4 hd)
      exact nextI_mem f _ _ i l hi (by rw [List.getElem?_eq_getElem hi, e])
    rw [List.length_map] at this
    exact this
/-- What is known of the steps of one side. -/
theorem steps_facts {f : Nat → Int} {d : Int} (h : slideRO f d = true) : vdO f = true ∧ vdO (slideRB f d) = true ∧ ((stpR f d).length : Int) ≤ cnxR f ∧
    (sameB (slideRB f d) f = true → (stpR f d).length = 0) ∧ (sameB (slideRB f d) f = false → (stpR f d).length = 2 * empN (slideRB f d) 16) := by
  have hS : SlideOk f d := of_decide_eq_true h
  obtain ⟨hV, h0, h3⟩ := hS
  obtain ⟨_, z2, _, _⟩ := slide_yes (f := f) (d := d) ⟨hV, h0, h3⟩
  rw [z2, stpR_yes ⟨hV, h0, h3⟩, cnxR_yes hV]
  have hm := many_steps f (d := d.toNat) (by omega)
  refine ⟨vdO_yes hV, vdO_yes (slideB_vd hV _), by omega, fun e => by rw [step_same e]; rfl, fun e => by rw [step_move e, stps_len]; omega⟩
/-- What is known of the steps between two boards. -/
theorem btR_facts (f g : Nat → Int) : (btR f g).length ≤ 128 ∧ ∀ x, x ∈ btR f g → x.length = 4 ∧ doRO f (fn x) = true ∧ ∀ j, j < 16 → doRB f (fn x) j = g j := by
  by_cases h : Vd f ∧ Vd g
  · rw [btR_yes h.1 h.2]
    refine ⟨Nat.le_trans (keep_le _ _ _) (all_le f 4), fun x hx => ?_⟩
    obtain ⟨h1, h2⟩ := keep_mem hx
    obtain ⟨h3, h4⟩ := all_fn (Nat.le_refl 4) h1
    obtain ⟨r1, _, r3⟩ := doR_yes (s := fn x) h.1
    rw [r1, r3]
    exact ⟨h3, decide_eq_true h4, sameB_iff.1 h2⟩
  · rw [btR_no h]
    exact ⟨Nat.zero_le _, fun x hx => by cases hx⟩
end Go.Proofs.Ytknjmkapabjolaa.Plain
