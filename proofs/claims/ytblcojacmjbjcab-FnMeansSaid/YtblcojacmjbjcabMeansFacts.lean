/-
  Plain facts for FnMeans: the best mean, the mean sum, the mean score of one move.
-/
import Derived.Test.YtblcojacmjbjcabMeanA
import Derived.Test.YtblcojacmjbjcabPlainA
namespace Go.Proofs.Ytblcojacmjbjcab.Plain
theorem means_best {f : Nat → Int} {V : Nat → Fc} (hV : ∀ d, d < 4 → isMv f d = true → FcOk (V d)) {d : Nat} (hd : d < 4) (hm : isMv f d = true) :
    (bmF f V 4).ok = true ∧ ltF (bmF f V 4).v (V d) = false ∧ (d < (bmF f V 4).d → V d ≠ (bmF f V 4).v) := by
  obtain ⟨h1, h2⟩ := (bm_first 4 hV).1 d hd hm
  refine ⟨h1, h2, fun hl e => ?_⟩
  obtain ⟨_, _, _, _, h3⟩ := (bm_first 4 hV).2 h1
  have := h3 d hl hm
  rw [e, ltF_irrefl] at this
  cases this
theorem means_at {f : Nat → Int} {V : Nat → Fc} (hV : ∀ d, d < 4 → isMv f d = true → FcOk (V d)) (hok : (bmF f V 4).ok = true) :
    (bmF f V 4).d < 4 ∧ isMv f (bmF f V 4).d = true ∧ V (bmF f V 4).d = (bmF f V 4).v := by
  obtain ⟨_, h1, h2, h3, _⟩ := (bm_first 4 hV).2 hok
  exact ⟨h1, h2, h3⟩
/-- The mean sum, as the document tells it by whole numbers. -/
theorem means_sum (S n : Nat) : 5 * (plusF (S, 1) (rd (11 * n) 5)).1 = (5 * S + 11 * n) * (plusF (S, 1) (rd (11 * n) 5)).2 ∧
    (plusF (S, 1) (rd (11 * n) 5)).2 ≤ 5 ∧ (plusF (S, 1) (rd (11 * n) 5)).1 ≤ 5 * S + 11 * n := by
  have e1 : (rd (11 * n) 5).1 * 5 = 11 * n * (rd (11 * n) 5).2 := rd_eqv
  have hp : 0 < (rd (11 * n) 5).2 := (rd_ok (a := 11 * n) (b := 5) (by omega)).1
  have l1 := rd_le1 (11 * n) 5
  have l2 := rd_le2 (11 * n) 5
  generalize (rd (11 * n) 5) = r at *
  have e2 : plusF (S, 1) r = rd (S * r.2 + r.1 * 1) (1 * r.2) := rfl
  have e3 : (rd (S * r.2 + r.1 * 1) (1 * r.2)).1 * (1 * r.2) = (S * r.2 + r.1 * 1) * (rd (S * r.2 + r.1 * 1) (1 * r.2)).2 := rd_eqv
  have l3 := rd_le1 (S * r.2 + r.1 * 1) (1 * r.2)
  have l4 := rd_le2 (S * r.2 + r.1 * 1) (1 * r.2)
  rw [e2]
  generalize rd (S * r.2 + r.1 * 1) (1 * r.2) = p at *
  have l5 : S * r.2 ≤ S * 5 := Nat.mul_le_mul_left S l2
  refine ⟨?_, by omega, by omega⟩
  apply Nat.eq_of_mul_eq_mul_right hp
  rw [Nat.one_mul, Nat.mul_one] at e3
  have e4 : (5 * S + 11 * n) * r.2 = 5 * (S * r.2 + r.1) := by rw [Nat.add_mul, ← e1, Nat.mul_add, Nat.mul_assoc, Nat.mul_comm r.1 5]
  rw [Nat.mul_assoc, e3, Nat.mul_right_comm, e4, Nat.mul_assoc]
theorem emp_like9 {f g : Nat → Int} (h : ∀ j, j < 16 → f j = g j) : ∀ k, k ≤ 16 → empN f k = empN g k
  | 0, _ => rfl
  | k + 1, hk => by
    unfold empN
    rw [emp_like9 h k (by omega), h k (by omega)]
/-- No score where no move is. -/
theorem means_still {f : Nat → Int} (hV : Vd f) {d : Nat} (hd : d < 4) (h : isMv f d = false) : slideS f d 4 = 0 := by
  have hs : sameB (slideB f d) f = true := by simpa [isMv] using h
  have h1 := emp_slide hV hd
  rw [emp_like9 (sameB_iff.1 hs) 16 (Nat.le_refl _)] at h1
  have h2 := (score_mg hV d).1
  have h3 := (slideS_bd hV d 4 (Nat.le_refl _)).1
  rcases Int.lt_or_eq_of_le h3 with h4 | h4
  · have := h2 h4; omega
  · exact h4.symm
theorem means_score {f : Nat → Int} (hV : Vd f) {d : Nat} (hd : d < 4) : ltF (ScF 1 f) ((slideS f d 4).toNat, 1) = false := by
  cases hm : isMv f d with
  | true =>
    have h1 := ((bm_first (V := scV 0 f) 4 fun d _ hm => by rw [scm_one hV hm]; exact fc_num _).1 d hd hm).2
    rw [scm_one hV hm, ← scm_succ] at h1
    exact h1
  | false =>
    rw [means_still hV hd hm]
    simp [ltF]
theorem means_sc1 {f : Nat → Int} (hV : Vd f) : (ScF 1 f).1 ≤ 4194304 ∧ (ScF 1 f).2 = 1 := ⟨(scm_num hV).2, (scm_num hV).1⟩
end Go.Proofs.Ytblcojacmjbjcab.Plain
