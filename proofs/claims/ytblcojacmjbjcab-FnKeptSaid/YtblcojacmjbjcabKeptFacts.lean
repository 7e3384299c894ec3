/-
  Plain facts for FnKept: the chance falls with the number of moves; one move; the chance behind the best of two.
-/
import Derived.Test.YtblcojacmjbjcabMeanA
namespace Go.Proofs.Ytblcojacmjbjcab.Plain
theorem kept_dvd (n : Nat) : dnK n ∣ 7207200 := by unfold dnK; split <;> decide
theorem kept_den {n : Nat} (hn : n ≤ 2) {f : Nat → Int} (hf : Vd f) : Den 7207200 1 (KpF n) f :=
  ⟨by decide, Nat.one_pos, fun p hp => (kp_ok n hn (plB_vd hf hp)).ok, fun p hp => Nat.dvd_trans (kp_ok n hn (plB_vd hf hp)).dvd (kept_dvd n), fun p hp => (kp_ok n hn (plB_vd hf hp)).le, by decide⟩
theorem kept_sum {T U : (Nat → Int) → Fc} {S : Nat → Int} {D : Nat} (L : List (Nat × Nat)) : (∀ p, p ∈ L → tpN T S D p ≤ tpN U S D p) → smL T S D L ≤ smL U S D L := by
  refine list_snoc (fun L => (∀ p, p ∈ L → tpN T S D p ≤ tpN U S D p) → smL T S D L ≤ smL U S D L) (fun _ => Nat.le_refl _) (fun L x ih hL => ?_) L
  rw [smL_snoc, smL_snoc]
  exact Nat.add_le_add (ih fun p hp => hL p (by simp [hp])) (Nat.mul_le_mul_right _ (hL x (by simp)))
theorem kept_mean {T U : (Nat → Int) → Fc} {S : Nat → Int} {D M N : Nat} (hT : Den D M T S) (hU : Den D N U S) (hE : 0 < empN S 16) (h : ∀ p, PlOk S p → ltF (U (plB S p)) (T (plB S p)) = false) : ltF (mnF U S) (mnF T S) = false := by
  rw [(mnF_rd hT hE).1, (mnF_rd hU hE).1, ltF_rd (Nat.mul_pos hT.D_pos (by omega)), decide_eq_false_iff_not]
  have := kept_sum (T := T) (U := U) (S := S) (D := D) (plA S) fun p hp => by
    have h1 := h p (plA_ok.1 hp)
    rw [(hT.at (plA_ok.1 hp)).1, (hU.at (plA_ok.1 hp)).1, ltF_rd hT.D_pos, decide_eq_false_iff_not] at h1
    omega
  omega
theorem kept_best {f : Nat → Int} {V W : Nat → Fc} (hV : ∀ d, d < 4 → isMv f d = true → FcOk (V d)) (hW : ∀ d, d < 4 → isMv f d = true → FcOk (W d))
    (h : ∀ d, d < 4 → isMv f d = true → ltF (W d) (V d) = false) : ltF (bmF f W 4).v (bmF f V 4).v = false := by
  by_cases hk : (movL f 4).length = 0
  · have e : ∀ X, bmF f X 4 = bm0 := fun X => by rw [← bmL_mov, List.eq_nil_of_length_eq_zero hk]; rfl
    rw [e, e]; exact ltF_irrefl _
  · have hok : (bmF f V 4).ok = true := by rw [bm_ok_iff]; simp [hk]
    have hok2 : (bmF f W 4).ok = true := by rw [bm_ok_iff]; simp [hk]
    obtain ⟨_, hd4, hm, hv, _⟩ := (bm_first 4 hV).2 hok
    have hw := ((bm_first 4 hW).1 _ hd4 hm).2
    have h1 := h _ hd4 hm
    rw [hv] at h1
    cases hq : ltF (bmF f W 4).v (bmF f V 4).v with
    | false => rfl
    | true =>
      rw [ltF_trans ((bm_first 4 hW).2 hok2).1 (hW _ hd4 hm) hw hq] at h1
      cases h1
/-- A chance to have one more move is never more. -/
theorem kept_falls : ∀ n, n ≤ 2 → ∀ {f : Nat → Int}, Vd f → ltF (KpF n f) (KpF (n + 1) f) = false
  | 0, _, f, hf => by rw [kp_zero]; exact ltF_one (kp_le (n := 1) (by omega) hf).2
  | n + 1, hn, f, hf => by
    rw [kp_succ, kp_succ]
    refine kept_best (V := kbV (n + 1) f) (W := kbV n f) (fun d _ hm => (kb_ok (by omega) hf hm).1) (fun d _ hm => (kb_ok (by omega) hf hm).1) fun d _ hm => ?_
    exact kept_mean (kept_den (by omega) (slideB_vd hf d)) (kept_den (by omega) (slideB_vd hf d)) (mv_room hf hm) fun p hp => kept_falls n (by omega) (plB_vd (slideB_vd hf d) hp)
theorem kept_arith {o1 o2 b1 b2 a B Q : Nat} (hQ : 0 < Q) (h : a + B = Q) (e1 : o1 * Q = a * o2) (e2 : b1 * Q = B * b2) : (o2 - o1) * b2 = b1 * o2 := by
  have x1 : (o2 - o1) * Q = B * o2 := by rw [Nat.sub_mul, e1, ← h, Nat.mul_add, Nat.mul_comm a o2, Nat.add_sub_cancel_left, Nat.mul_comm]
  apply Nat.eq_of_mul_eq_mul_right hQ
  rw [Nat.mul_right_comm, x1, Nat.mul_right_comm b1, e2, Nat.mul_right_comm]
/-- A move is left behind it or none is. -/
theorem kept_two {S : Nat → Int} (hS : Vd S) (L : List (Nat × Nat)) : (∀ p, p ∈ L → PlOk S p) → smL (numT uOver) S 1 L + smL (KpF 1) S 1 L = wtL L := by
  refine list_snoc (fun L => (∀ p, p ∈ L → PlOk S p) → smL (numT uOver) S 1 L + smL (KpF 1) S 1 L = wtL L) (fun _ => rfl) (fun L x ih hL => ?_) L
  have i1 := ih fun p hp => hL p (by simp [hp])
  have i2 : tpN (numT uOver) S 1 x + tpN (KpF 1) S 1 x = 1 := by
    have hx := plB_vd hS (hL x (by simp))
    unfold tpN
    rw [kp_first hx]
    show oneN (noMvB (plB S x)) * (1 / 1) + _ = 1
    unfold noMvB
    split
    · rename_i h0; rw [decide_eq_true h0]; rfl
    · rename_i h0; rw [decide_eq_false h0]; rfl
  rw [smL_snoc, smL_snoc, wtL_snoc]
  have i3 := congrArg (· * wtP x) i2
  simp only [Nat.add_mul, Nat.one_mul] at i3
  omega
theorem kept_behind {S : Nat → Int} (hS : Vd S) (hE : 0 < empN S 16) :
    (mnF (numT uOver) S).1 ≤ (mnF (numT uOver) S).2 ∧ (mnF (numT uOver) S).2 ≤ 160 ∧ (mnF (KpF 1) S).1 ≤ (mnF (KpF 1) S).2 ∧ (mnF (KpF 1) S).2 ≤ 160 ∧
    ((mnF (numT uOver) S).2 - (mnF (numT uOver) S).1) * (mnF (KpF 1) S).2 = (mnF (KpF 1) S).1 * (mnF (numT uOver) S).2 := by
  have hK : Den 1 1 (KpF 1) S := kp_dn (n := 1) (by omega) hS
  have hU : Den 1 1 (numT uOver) S := den_num Nat.one_pos (by decide) (fun g => oneN_le _)
  obtain ⟨_, d1, l1⟩ := mnF_ok hU hE
  obtain ⟨_, d2, l2⟩ := mnF_ok hK hE
  have hE16 := empN_le S 16
  have hQ : 0 < 1 * (10 * empN S 16) := by omega
  have b1 := Nat.le_of_dvd hQ d1
  have b2 := Nat.le_of_dvd hQ d2
  refine ⟨by omega, by omega, by omega, by omega, ?_⟩
  have hs := kept_two hS (plA S) fun p hp => plA_ok.1 hp
  rw [wtL_all] at hs
  have e1 := (mnF_rd hU hE).1
  have e2 := (mnF_rd hK hE).1
  rw [e1, e2]
  exact kept_arith hQ (by omega) rd_eqv rd_eqv
/-- Behind the best direction of two moves. -/
theorem kept_well {f : Nat → Int} (hV : Vd f) (hok : (bmF f (kbV 1 f) 4).ok = true) :
    (bmF f (kbV 1 f) 4).d < 4 ∧ isMv f (bmF f (kbV 1 f) 4).d = true ∧ KpF 2 f = mnF (KpF 1) (slideB f (bmF f (kbV 1 f) 4).d) := by
  obtain ⟨_, hd4, hm, hv, _⟩ := (bm_first 4 fun d _ hm => (kb_ok (n := 1) (by omega) hV hm).1).2 hok
  exact ⟨hd4, hm, by rw [kp_succ, ← hv]; rfl⟩
theorem kept_one {f : Nat → Int} (hV : Vd f) : decide (KpF 1 f = (1, 1)) = !overR f := by
  rw [kp_first hV]
  split
  · rename_i h; rw [over_yes hV h]; rfl
  · rename_i h; rw [over_not h]; rfl
theorem kept_over {n : Nat} {f : Nat → Int} (h : overR f = true) : KpF (n + 1) f = (0, 1) := by
  have h0 : (movL f 4).length = 0 := by
    unfold overR at h; exact (of_decide_eq_true h).2
  rw [kp_succ, ← bmL_mov, List.eq_nil_of_length_eq_zero h0]; rfl
theorem kept_bd {n : Nat} (hn : n ≤ 3) {f : Nat → Int} (hf : Vd f) : (KpF n f).1 ≤ (KpF n f).2 ∧ (KpF n f).2 ≤ 1153152000 := by
  refine ⟨(kp_le hn hf).2, ?_⟩
  match n, hn with
  | 0, _ => exact (by decide : (1 : Nat) ≤ 1153152000)
  | n + 1, hn =>
    rw [kp_succ]
    exact bm_all (P := fun p => p.2 ≤ 1153152000) (by decide) 4 fun d _ hm => (kb_ok (by omega) hf hm).2.2
end Go.Proofs.Ytblcojacmjbjcab.Plain
