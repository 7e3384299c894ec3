/-
  Plain facts on means behind a move, and on the best move. No program stands in this text.
-/
import Derived.Test.YtkocfpldgjfpeaaWorstPlain
import Derived.Test.YtkocfpldgjfpeaaFracPlain
set_option linter.unusedSimpArgs false
namespace Go.Proofs.Ytkocfpldgjfpeaa.Plain
/-- The weight of a placement. -/
def wtP (p : Nat × Nat) : Nat := if p.2 = 2 then 1 else 9
theorem wtP_le (p : Nat × Nat) : 1 ≤ wtP p ∧ wtP p ≤ 9 := by unfold wtP; split <;> omega
def wtL (L : List (Nat × Nat)) : Nat := (L.map wtP).sum
theorem wtL_snoc (L : List (Nat × Nat)) (p : Nat × Nat) : wtL (L ++ [p]) = wtL L + wtP p := by simp [wtL]
theorem wtL_app (L M : List (Nat × Nat)) : wtL (L ++ M) = wtL L + wtL M := by simp [wtL]
theorem wtL_two (E : List Nat) : wtL (E.flatMap fun j => [(j, 1), (j, 2)]) = 10 * E.length := by
  induction E with
  | nil => rfl
  | cons a E ih =>
    rw [List.flatMap_cons, wtL_app, ih, List.length_cons]
    have : wtL [(a, 1), (a, 2)] = 10 := rfl
    rw [this]; omega
theorem wtL_all (f : Nat → Int) : wtL (plA f) = 10 * empN f 16 := by unfold plA; rw [wtL_two, emI_len]
theorem wtL_pre {f : Nat → Int} {L M : List (Nat × Nat)} (h : plA f = L ++ M) : wtL L ≤ 160 := by
  have h1 := wtL_all f
  have h2 := empN_le f 16
  rw [h, wtL_app] at h1
  omega
/-- What meanBehind sums up. -/
def mnS (T : (Nat → Int) → Fc) (f : Nat → Int) (s : Fc × Nat) (p : Nat × Nat) : Fc × Nat := (plusF s.1 (timesF (T (plB f p)) (wtP p)), s.2 + wtP p)
def mnR (T : (Nat → Int) → Fc) (f : Nat → Int) (L : List (Nat × Nat)) : Fc × Nat := L.foldl (mnS T f) ((0, 1), 0)
theorem mnR_nil (T : (Nat → Int) → Fc) (f : Nat → Int) : mnR T f [] = ((0, 1), 0) := rfl
theorem mnR_snoc (T : (Nat → Int) → Fc) (f : Nat → Int) (L : List (Nat × Nat)) (p : Nat × Nat) : mnR T f (L ++ [p]) = mnS T f (mnR T f L) p := by simp [mnR, List.foldl_append]
def mnF (T : (Nat → Int) → Fc) (f : Nat → Int) : Fc := divF (mnR T f (plA f)).1 (mnR T f (plA f)).2
theorem mnR_w (T : (Nat → Int) → Fc) (f : Nat → Int) (L : List (Nat × Nat)) : (mnR T f L).2 = wtL L :=
  list_snoc (fun L => (mnR T f L).2 = wtL L) rfl (fun L x ih => by rw [mnR_snoc, wtL_snoc, ← ih]; rfl) L
/-- What is asked of what is told of the boards behind a move: denominators divide D, and nothing is more than M. -/
structure Den (D M : Nat) (T : (Nat → Int) → Fc) (f : Nat → Int) : Prop where
  D_pos : 0 < D
  M_pos : 0 < M
  ok : ∀ p, PlOk f p → FcOk (T (plB f p))
  dvd : ∀ p, PlOk f p → (T (plB f p)).2 ∣ D
  le : ∀ p, PlOk f p → (T (plB f p)).1 ≤ M * (T (plB f p)).2
  small : M * (D * D) ≤ 1125899906842624
def tpN (T : (Nat → Int) → Fc) (f : Nat → Int) (D : Nat) (p : Nat × Nat) : Nat := (T (plB f p)).1 * (D / (T (plB f p)).2)
def smL (T : (Nat → Int) → Fc) (f : Nat → Int) (D : Nat) (L : List (Nat × Nat)) : Nat := (L.map fun p => tpN T f D p * wtP p).sum
theorem smL_snoc (T : (Nat → Int) → Fc) (f : Nat → Int) (D : Nat) (L : List (Nat × Nat)) (p : Nat × Nat) : smL T f D (L ++ [p]) = smL T f D L + tpN T f D p * wtP p := by simp [smL]
theorem Den.at {D M : Nat} {T : (Nat → Int) → Fc} {f : Nat → Int} (h : Den D M T f) {p : Nat × Nat} (hp : PlOk f p) :
    T (plB f p) = rd (tpN T f D p) D ∧ tpN T f D p ≤ M * D := by
  refine ⟨fc_rd (h.ok p hp) h.D_pos (h.dvd p hp), ?_⟩
  unfold tpN
  have h1 := h.le p hp
  have h2 := Nat.mul_le_mul_right (D / (T (plB f p)).2) h1
  refine Nat.le_trans h2 ?_
  rw [Nat.mul_assoc, Nat.mul_div_cancel' (h.dvd p hp)]
  exact Nat.le_refl _
theorem mnR_rd {D M : Nat} {T : (Nat → Int) → Fc} {f : Nat → Int} (h : Den D M T f) (L : List (Nat × Nat)) : (∀ p, p ∈ L → PlOk f p) → (mnR T f L).1 = rd (smL T f D L) D ∧ smL T f D L ≤ M * D * wtL L := by
  refine list_snoc (fun L => (∀ p, p ∈ L → PlOk f p) → (mnR T f L).1 = rd (smL T f D L) D ∧ smL T f D L ≤ M * D * wtL L) (fun _ => ?_) (fun L x ih hL => ?_) L
  · exact ⟨(rd_zero h.D_pos).symm, Nat.zero_le _⟩
  · obtain ⟨i1, i2⟩ := ih (fun p hp => hL p (by simp [hp]))
    obtain ⟨e1, e2⟩ := h.at (hL x (by simp))
    rw [mnR_snoc, smL_snoc, wtL_snoc]
    refine ⟨?_, ?_⟩
    · show plusF (mnR T f L).1 (timesF (T (plB f x)) (wtP x)) = _
      rw [i1, e1, times_rd h.D_pos, plus_rd h.D_pos]
    · rw [Nat.mul_add]
      exact Nat.add_le_add i2 (Nat.mul_le_mul_right _ e2)
theorem pl_pre {f : Nat → Int} {L M : List (Nat × Nat)} (h : plA f = L ++ M) : ∀ p, p ∈ L → PlOk f p := fun p hp => plA_ok.1 (by rw [h]; simp [hp])
/-- The mean as one fraction. -/
theorem mnF_rd {D M : Nat} {T : (Nat → Int) → Fc} {f : Nat → Int} (h : Den D M T f) (hE : 0 < empN f 16) : mnF T f = rd (smL T f D (plA f)) (D * (10 * empN f 16)) ∧ smL T f D (plA f) ≤ M * (D * (10 * empN f 16)) := by
  obtain ⟨h1, h2⟩ := mnR_rd h (plA f) (fun p hp => plA_ok.1 hp)
  unfold mnF
  rw [mnR_w, h1, wtL_all, div_rd h.D_pos (by omega)]
  refine ⟨rfl, ?_⟩
  rw [wtL_all, Nat.mul_assoc] at h2
  exact h2
theorem fc_le_rd {S Q M : Nat} (hQ : 0 < Q) (h : S ≤ M * Q) : (rd S Q).1 ≤ M * (rd S Q).2 := by
  have e : (rd S Q).1 * Q = S * (rd S Q).2 := rd_eqv
  refine Nat.le_of_mul_le_mul_right (c := Q) ?_ hQ
  rw [e, show M * (rd S Q).2 * Q = M * Q * (rd S Q).2 by simp [Nat.mul_comm, Nat.mul_left_comm, Nat.mul_assoc]]
  exact Nat.mul_le_mul_right _ h
theorem mnF_ok {D M : Nat} {T : (Nat → Int) → Fc} {f : Nat → Int} (h : Den D M T f) (hE : 0 < empN f 16) :
    FcOk (mnF T f) ∧ (mnF T f).2 ∣ D * (10 * empN f 16) ∧ (mnF T f).1 ≤ M * (mnF T f).2 := by
  obtain ⟨h1, h2⟩ := mnF_rd h hE
  have hQ : 0 < D * (10 * empN f 16) := Nat.mul_pos h.D_pos (by omega)
  rw [h1]
  exact ⟨rd_ok hQ, rd_dvd _ _, fc_le_rd hQ h2⟩
theorem wtL_le (L : List (Nat × Nat)) : wtL L ≤ 9 * L.length :=
  list_snoc (fun L => wtL L ≤ 9 * L.length) (Nat.le_refl _) (fun L x ih => by have := wtP_le x; rw [wtL_snoc, List.length_append, List.length_singleton]; omega) L
/-- Bounds for one round of meanBehind. -/
theorem mn_round {D M : Nat} {T : (Nat → Int) → Fc} {f : Nat → Int} (h : Den D M T f) {L : List (Nat × Nat)} {p : Nat × Nat} (hp : PlOk f p) (hL : ∀ q, q ∈ L → PlOk f q) (hlen : L.length ≤ 32) :
    0 < (T (plB f p)).2 ∧ 0 < (mnR T f L).1.2 ∧ 0 < (timesF (T (plB f p)) (wtP p)).2 ∧ (T (plB f p)).1 * wtP p ≤ 4611686018427387904 ∧ (T (plB f p)).2 ≤ 4611686018427387904 ∧
    (mnR T f L).1.1 * (timesF (T (plB f p)) (wtP p)).2 ≤ 2305843009213693952 ∧ (timesF (T (plB f p)) (wtP p)).1 * (mnR T f L).1.2 ≤ 2305843009213693952 ∧ (mnR T f L).1.2 * (timesF (T (plB f p)) (wtP p)).2 ≤ 4611686018427387904 ∧ (mnR T f L).2 ≤ 300 := by
  obtain ⟨h1, h2⟩ := mnR_rd h L hL
  obtain ⟨e1, e2⟩ := h.at hp
  have hD := h.D_pos
  have hM := h.M_pos
  have hs := h.small
  have hw : wtL L ≤ 300 := by have := wtL_le L; omega
  have hwp := wtP_le p
  have hT := h.ok p hp
  have et : timesF (T (plB f p)) (wtP p) = rd (tpN T f D p * wtP p) D := by rw [e1]; exact times_rd hD
  have a1 : (mnR T f L).1.1 ≤ M * D * 300 := by rw [h1]; exact Nat.le_trans (rd_le1 _ _) (Nat.le_trans h2 (Nat.mul_le_mul_left _ hw))
  have a2 : (mnR T f L).1.2 ≤ D := by rw [h1]; exact rd_le2 _ _
  have a3 : (timesF (T (plB f p)) (wtP p)).1 ≤ M * D * 9 := by rw [et]; exact Nat.le_trans (rd_le1 _ _) (Nat.mul_le_mul e2 hwp.2)
  have a4 : (timesF (T (plB f p)) (wtP p)).2 ≤ D := by rw [et]; exact rd_le2 _ _
  have hDD : D ≤ D * D := Nat.le_mul_of_pos_right D hD
  have hMDD : D * D ≤ M * (D * D) := Nat.le_mul_of_pos_left _ hM
  refine ⟨hT.pos, by rw [h1]; exact (rd_ok hD).pos, by rw [et]; exact (rd_ok hD).pos, ?_, ?_, ?_, ?_, ?_, by rw [mnR_w]; exact hw⟩
  · have b1 := h.le p hp
    have b2 : (T (plB f p)).2 ≤ D := Nat.le_of_dvd hD (h.dvd p hp)
    have b3 : (T (plB f p)).1 ≤ M * (D * D) := Nat.le_trans b1 (Nat.mul_le_mul_left _ (Nat.le_trans b2 hDD))
    have := Nat.mul_le_mul b3 hwp.2
    omega
  · have b2 : (T (plB f p)).2 ≤ D := Nat.le_of_dvd hD (h.dvd p hp)
    omega
  · have := Nat.mul_le_mul a1 a4
    have e : M * D * 300 * D = 300 * (M * (D * D)) := by simp [Nat.mul_comm, Nat.mul_left_comm, Nat.mul_assoc]
    rw [e] at this; omega
  · have := Nat.mul_le_mul a3 a2
    have e : M * D * 9 * D = 9 * (M * (D * D)) := by simp [Nat.mul_comm, Nat.mul_left_comm, Nat.mul_assoc]
    rw [e] at this; omega
  · have := Nat.mul_le_mul a2 a4
    omega
/-- Bounds for what follows the last round. -/
theorem mn_end {D M : Nat} {T : (Nat → Int) → Fc} {f : Nat → Int} (h : Den D M T f) (hE : 0 < empN f 16) :
    0 < (mnR T f (plA f)).1.2 ∧ 0 < (mnR T f (plA f)).2 ∧ (mnR T f (plA f)).1.1 ≤ 180143985094819840 ∧ (mnR T f (plA f)).1.2 * (mnR T f (plA f)).2 ≤ 180143985094819840 := by
  obtain ⟨h1, h2⟩ := mnR_rd h (plA f) (fun p hp => plA_ok.1 hp)
  have hD := h.D_pos
  have hM := h.M_pos
  have hs := h.small
  have hw := wtL_pre (f := f) (L := plA f) (M := []) (by simp)
  have hDD : D ≤ D * D := Nat.le_mul_of_pos_right D hD
  have hMDD : D * D ≤ M * (D * D) := Nat.le_mul_of_pos_left _ hM
  have a1 : (mnR T f (plA f)).1.1 ≤ M * D * 160 := by rw [h1]; exact Nat.le_trans (rd_le1 _ _) (Nat.le_trans h2 (Nat.mul_le_mul_left _ hw))
  have a2 : (mnR T f (plA f)).1.2 ≤ D := by rw [h1]; exact rd_le2 _ _
  refine ⟨by rw [h1]; exact (rd_ok hD).pos, by rw [mnR_w, wtL_all]; omega, ?_, ?_⟩
  · have : M * D ≤ M * (D * D) := Nat.mul_le_mul_left _ hDD
    omega
  · rw [mnR_w]
    have := Nat.mul_le_mul a2 hw
    omega

/-- The first of the first k directions that are moves for which a fraction is the greatest, and this fraction. -/
structure Bm where
  d : Nat
  v : Fc
  ok : Bool
def bm0 : Bm := ⟨0, (0, 1), false⟩
def bmF (f : Nat → Int) (V : Nat → Fc) : Nat → Bm
  | 0 => bm0
  | k + 1 => if isMv f k = true then (if (bmF f V k).ok = false ∨ ltF (bmF f V k).v (V k) = true then ⟨k, V k, true⟩ else bmF f V k) else bmF f V k
theorem bm_still {f : Nat → Int} {V : Nat → Fc} {k : Nat} (h : isMv f k = false) : bmF f V (k + 1) = bmF f V k := by simp [bmF, h]
theorem bm_yes {f : Nat → Int} {V : Nat → Fc} {k : Nat} (h : isMv f k = true) (h2 : (bmF f V k).ok = false ∨ ltF (bmF f V k).v (V k) = true) : bmF f V (k + 1) = ⟨k, V k, true⟩ := by simp only [bmF, h, h2, if_true]
theorem bm_no {f : Nat → Int} {V : Nat → Fc} {k : Nat} (h : isMv f k = true) (h2 : ¬ ((bmF f V k).ok = false ∨ ltF (bmF f V k).v (V k) = true)) : bmF f V (k + 1) = bmF f V k := by simp only [bmF, h, h2, if_true, if_false]
theorem bm_ok_iff (f : Nat → Int) (V : Nat → Fc) : ∀ k, (bmF f V k).ok = decide ((movL f k).length ≠ 0)
  | 0 => rfl
  | k + 1 => by
    have ih := bm_ok_iff f V k
    cases hm : isMv f k with
    | false => rw [bm_still hm, mov_no hm]; exact ih
    | true =>
      rw [mov_yes hm]
      by_cases h : (bmF f V k).ok = false ∨ ltF (bmF f V k).v (V k) = true
      · rw [bm_yes hm h]; simp
      · rw [bm_no hm h]
        simp only [not_or, Bool.not_eq_false] at h
        rw [h.1]; simp
theorem bm_move {f : Nat → Int} {V : Nat → Fc} {k : Nat} (h : isMv f k = true) : (bmF f V (k + 1)).ok = true := by
  rw [bm_ok_iff, mov_yes h]; simp
theorem bm_d_le (f : Nat → Int) (V : Nat → Fc) : ∀ k, (bmF f V k).d ≤ k
  | 0 => Nat.le_refl _
  | k + 1 => by
    have ih := bm_d_le f V k
    unfold bmF
    split
    · split
      · exact Nat.le_succ k
      · omega
    · omega
/-- Behind the greatest that there can be, nothing changes any more. -/
theorem bm_stop {f : Nat → Int} {V : Nat → Fc} {e : Fc} (h : ∀ d, d < 4 → isMv f d = true → ltF e (V d) = false) {k : Nat} (hok : (bmF f V k).ok = true) (hv : (bmF f V k).v = e) : ∀ j, k + j ≤ 4 → bmF f V (k + j) = bmF f V k
  | 0, _ => rfl
  | j + 1, hj => by
    have ih := bm_stop h hok hv j (by omega)
    show bmF f V ((k + j) + 1) = _
    cases hm : isMv f (k + j) with
    | false => rw [bm_still hm]; exact ih
    | true =>
      rw [bm_no hm]
      · exact ih
      · rw [ih, hok, hv, h (k + j) (by omega) hm]; simp
theorem bm_congr {f : Nat → Int} {V W : Nat → Fc} : ∀ k, (∀ d, d < k → isMv f d = true → V d = W d) → bmF f V k = bmF f W k
  | 0, _ => rfl
  | k + 1, h => by
    have ih := bm_congr k (fun d hd => h d (by omega))
    cases hm : isMv f k with
    | false => rw [bm_still hm, bm_still hm]; exact ih
    | true => unfold bmF; rw [ih, h k (by omega) hm]
/-- What holds of all values, and of none, holds of the greatest. -/
theorem bm_all {f : Nat → Int} {V : Nat → Fc} {P : Fc → Prop} (h0 : P (0, 1)) : ∀ k, (∀ d, d < k → isMv f d = true → P (V d)) → P (bmF f V k).v
  | 0, _ => h0
  | k + 1, h => by
    have ih := bm_all h0 k (fun d hd => h d (by omega))
    cases hm : isMv f k with
    | false => rw [bm_still hm]; exact ih
    | true =>
      by_cases h2 : (bmF f V k).ok = false ∨ ltF (bmF f V k).v (V k) = true
      · rw [bm_yes hm h2]; exact h k (by omega) hm
      · rw [bm_no hm h2]; exact ih
theorem fc_zero {p : Fc} (hp : FcOk p) (h : p.1 = 0) : p = (0, 1) := by
  obtain ⟨a, b⟩ := p
  have := hp.cop
  simp only at h this
  subst h
  simp at this
  rw [this]
/-- The greatest one, as the reference has it: begun with none. -/
def mxF (f : Nat → Int) (V : Nat → Fc) : Nat → Fc
  | 0 => (0, 1)
  | k + 1 => if isMv f k = true ∧ ltF (mxF f V k) (V k) = true then V k else mxF f V k
theorem mx_bm {f : Nat → Int} {V : Nat → Fc} : ∀ k, (∀ d, d < k → isMv f d = true → FcOk (V d)) → mxF f V k = (bmF f V k).v
  | 0, _ => rfl
  | k + 1, h => by
    have ih := mx_bm k (fun d hd => h d (by omega))
    cases hm : isMv f k with
    | false => rw [bm_still hm, ← ih]; simp [mxF, hm]
    | true =>
      by_cases h2 : ltF (bmF f V k).v (V k) = true
      · rw [bm_yes hm (.inr h2)]; unfold mxF; rw [ih, if_pos ⟨hm, h2⟩]
      · have e : mxF f V (k + 1) = (bmF f V k).v := by unfold mxF; rw [ih, if_neg (fun q => h2 q.2)]
        rw [e]
        cases ho : (bmF f V k).ok with
        | true => rw [bm_no hm (by rw [ho]; simp [h2])]
        | false =>
          rw [bm_yes hm (.inl ho)]
          have hz : (bmF f V k).v = (0, 1) := by
            have : ∀ j, (bmF f V j).ok = false → (bmF f V j).v = (0, 1) := by
              intro j
              induction j with
              | zero => intro _; rfl
              | succ j ihj =>
                intro hj
                cases hmj : isMv f j with
                | false => rw [bm_still hmj] at hj ⊢; exact ihj hj
                | true => rw [bm_move hmj] at hj; cases hj
            exact this k ho
          rw [hz] at h2 ⊢
          have hk := h k (by omega) hm
          refine (fc_zero hk ?_).symm
          simp only [ltF, decide_eq_true_eq, Nat.zero_mul, Nat.mul_one] at h2
          omega
theorem ltF_trans {p q r : Fc} (hq : FcOk q) (hp : FcOk p) (h1 : ltF q p = false) (h2 : ltF q r = true) : ltF p r = true := by
  simp only [ltF, decide_eq_true_eq, decide_eq_false_iff_not, Nat.not_lt] at h1 h2 ⊢
  obtain ⟨a, b⟩ := p
  obtain ⟨c, d⟩ := q
  obtain ⟨e, g⟩ := r
  have hd : 0 < d := hq.pos
  have hb : 0 < b := hp.pos
  simp only at h1 h2 ⊢
  have x1 := Nat.mul_le_mul_right g h1
  have x2 := Nat.mul_lt_mul_of_pos_right h2 hb
  have x3 : (a * g) * d < (e * b) * d := by
    calc (a * g) * d = a * d * g := by simp [Nat.mul_comm, Nat.mul_left_comm, Nat.mul_assoc]
      _ ≤ c * b * g := x1
      _ = c * g * b := by simp [Nat.mul_comm, Nat.mul_left_comm, Nat.mul_assoc]
      _ < e * d * b := x2
      _ = (e * b) * d := by simp [Nat.mul_comm, Nat.mul_left_comm, Nat.mul_assoc]
  exact Nat.lt_of_mul_lt_mul_right x3
theorem ltF_asymm {p q : Fc} (h : ltF p q = true) : ltF q p = false := by
  simp only [ltF, decide_eq_true_eq, decide_eq_false_iff_not, Nat.not_lt] at h ⊢; omega
/-- No value is more than the greatest one, and its direction is the first that has it. -/
theorem bm_first {f : Nat → Int} {V : Nat → Fc} : ∀ k, (∀ d, d < k → isMv f d = true → FcOk (V d)) →
    (∀ e, e < k → isMv f e = true → (bmF f V k).ok = true ∧ ltF (bmF f V k).v (V e) = false) ∧
    ((bmF f V k).ok = true → FcOk (bmF f V k).v ∧ (bmF f V k).d < k ∧ isMv f (bmF f V k).d = true ∧ V (bmF f V k).d = (bmF f V k).v ∧ ∀ e, e < (bmF f V k).d → isMv f e = true → ltF (V e) (bmF f V k).v = true)
  | 0, _ => ⟨fun e he => by omega, fun h => by cases h⟩
  | k + 1, hV => by
    obtain ⟨i1, i2⟩ := bm_first k (fun d hd => hV d (by omega))
    cases hm : isMv f k with
    | false =>
      rw [bm_still hm]
      refine ⟨fun e he hme => ?_, fun h => ?_⟩
      · have : e ≠ k := fun q => by subst q; rw [hm] at hme; cases hme
        exact i1 e (by omega) hme
      · obtain ⟨o, a, b, c, d⟩ := i2 h
        exact ⟨o, by omega, b, c, d⟩
    | true =>
      by_cases h2 : (bmF f V k).ok = false ∨ ltF (bmF f V k).v (V k) = true
      · rw [bm_yes hm h2]
        have key : ∀ e, e < k → isMv f e = true → ltF (V e) (V k) = true := fun e he hme => by
          obtain ⟨ok, hle⟩ := i1 e he hme
          have h2 : ltF (bmF f V k).v (V k) = true := by
            rcases h2 with h2 | h2
            · rw [ok] at h2; cases h2
            · exact h2
          exact ltF_trans (i2 ok).1 (hV e (by omega) hme) hle h2
        refine ⟨fun e he hme => ⟨rfl, ?_⟩, fun _ => ⟨hV k (by omega) hm, Nat.lt_succ_self k, hm, rfl, fun e he hme => key e he hme⟩⟩
        by_cases q : e = k
        · subst q; exact ltF_irrefl _
        · exact ltF_asymm (key e (by omega) hme)
      · rw [bm_no hm h2]
        simp only [not_or, Bool.not_eq_false, Bool.not_eq_true] at h2
        refine ⟨fun e he hme => ?_, fun h => ?_⟩
        · by_cases q : e = k
          · subst q; exact h2
          · exact i1 e (by omega) hme
        · obtain ⟨o, a, b, c, d⟩ := i2 h
          exact ⟨o, by omega, b, c, d⟩

/-- The chance to have n moves, played well; and behind a direction. -/
def KpF : Nat → (Nat → Int) → Fc
  | 0, _ => (1, 1)
  | n + 1, f => (bmF f (fun d => mnF (KpF n) (slideB f d)) 4).v
def kbV (n : Nat) (f : Nat → Int) (d : Nat) : Fc := mnF (KpF n) (slideB f d)
theorem kp_zero (f : Nat → Int) : KpF 0 f = (1, 1) := rfl
theorem kp_succ (n : Nat) (f : Nat → Int) : KpF (n + 1) f = (bmF f (kbV n f) 4).v := rfl
/-- What the chances of n moves are divided by, at most. -/
def dnK : Nat → Nat
  | 0 | 1 => 1
  | _ => 7207200
theorem dnK_pos (n : Nat) : 0 < dnK n := by unfold dnK; split <;> decide
theorem dnK_le (n : Nat) : dnK n ≤ 7207200 := by unfold dnK; split <;> decide
theorem fc_one : FcOk (1, 1) := ⟨Nat.one_pos, rfl⟩
theorem fc_nil : FcOk (0, 1) := ⟨Nat.one_pos, rfl⟩
theorem fc_num (n : Nat) : FcOk (n, 1) := ⟨Nat.one_pos, by simp⟩
theorem dvd_ten (E : Nat) (h : 0 < E) (h2 : E ≤ 16) : 10 * E ∣ 7207200 := by
  have : ∀ k, k < 16 → 10 * (k + 1) ∣ 7207200 := by decide
  have := this (E - 1) (by omega)
  rwa [Nat.sub_add_cancel h] at this
structure KpOk (n : Nat) (p : Fc) : Prop where
  ok : FcOk p
  dvd : p.2 ∣ dnK n
  le : p.1 ≤ 1 * p.2
theorem kp_den {n : Nat} (h : ∀ g, Vd g → KpOk n (KpF n g)) {f : Nat → Int} (hf : Vd f) : Den (dnK n) 1 (KpF n) f :=
  ⟨dnK_pos n, Nat.one_pos, fun p hp => (h _ (plB_vd hf hp)).ok, fun p hp => (h _ (plB_vd hf hp)).dvd, fun p hp => (h _ (plB_vd hf hp)).le, by
    have := dnK_le n
    have := Nat.mul_le_mul this this
    omega⟩
theorem kp_one {f : Nat → Int} {d : Nat} (hf : Vd f) (hm : isMv f d = true) : kbV 0 f d = (1, 1) := by
  have hd : Den 1 1 (KpF 0) (slideB f d) := ⟨Nat.one_pos, Nat.one_pos, fun _ _ => fc_one, fun _ _ => ⟨1, rfl⟩, fun _ _ => Nat.le_refl _, by decide⟩
  have hE := mv_room hf hm
  unfold kbV
  rw [(mnF_rd hd hE).1]
  have hs : ∀ L, smL (KpF 0) (slideB f d) 1 L = wtL L := fun L => by
    unfold smL wtL
    congr 1
    refine List.map_congr_left fun p _ => ?_
    show 1 * (1 / 1) * wtP p = wtP p
    omega
  rw [hs, wtL_all, Nat.one_mul]
  exact rd_same (by omega)
theorem kp_ok : ∀ (n : Nat), n ≤ 2 → ∀ {f : Nat → Int}, Vd f → KpOk n (KpF n f)
  | 0, _, _, _ => ⟨fc_one, ⟨1, rfl⟩, Nat.le_refl _⟩
  | 1, _, f, hf => by
    rw [kp_succ]
    exact bm_all (P := KpOk 1) ⟨fc_nil, ⟨1, rfl⟩, Nat.zero_le _⟩ 4 fun d _ hm => by
      rw [kp_one hf hm]; exact ⟨fc_one, ⟨1, rfl⟩, Nat.le_refl _⟩
  | 2, _, f, hf => by
    rw [kp_succ]
    refine bm_all (P := KpOk 2) ⟨fc_nil, ⟨7207200, rfl⟩, Nat.zero_le _⟩ 4 fun d _ hm => ?_
    have hE := mv_room hf hm
    obtain ⟨a, b, c⟩ := mnF_ok (kp_den (n := 1) (fun g hg => kp_ok 1 (by omega) hg) (slideB_vd hf d)) hE
    refine ⟨a, Nat.dvd_trans b ?_, c⟩
    show 1 * (10 * empN (slideB f d) 16) ∣ 7207200
    rw [Nat.one_mul]
    exact dvd_ten _ hE (empN_le _ 16)
theorem kp_dn {n : Nat} (hn : n ≤ 2) {f : Nat → Int} (hf : Vd f) : Den (dnK n) 1 (KpF n) f := kp_den (fun _ hg => kp_ok n hn hg) hf
/-- What is told of a direction that is a move. -/
theorem kb_ok {n : Nat} (hn : n ≤ 2) {f : Nat → Int} {d : Nat} (hf : Vd f) (hm : isMv f d = true) : FcOk (kbV n f d) ∧ (kbV n f d).1 ≤ (kbV n f d).2 ∧ (kbV n f d).2 ≤ 1153152000 := by
  have hE := mv_room hf hm
  obtain ⟨a, b, c⟩ := mnF_ok (kp_dn hn (slideB_vd hf d)) hE
  refine ⟨a, by rw [Nat.one_mul] at c; exact c, ?_⟩
  have h1 := empN_le (slideB f d) 16
  have h2 := Nat.le_of_dvd (Nat.mul_pos (dnK_pos n) (by omega)) b
  have h3 := Nat.mul_le_mul (dnK_le n) (show 10 * empN (slideB f d) 16 ≤ 160 by omega)
  exact Nat.le_trans h2 h3
theorem kp_le {n : Nat} (hn : n ≤ 3) {f : Nat → Int} (hf : Vd f) : FcOk (KpF n f) ∧ (KpF n f).1 ≤ (KpF n f).2 := by
  match n, hn with
  | 0, _ => exact ⟨fc_one, Nat.le_refl _⟩
  | n + 1, hn =>
    rw [kp_succ]
    exact bm_all (P := fun p => FcOk p ∧ p.1 ≤ p.2) ⟨fc_nil, Nat.zero_le _⟩ 4 fun d _ hm => ⟨(kb_ok (by omega) hf hm).1, (kb_ok (by omega) hf hm).2.1⟩
theorem ltF_one {p : Fc} (h : p.1 ≤ p.2) : ltF (1, 1) p = false := by
  simp only [ltF, decide_eq_false_iff_not]; omega
theorem ltF_end (p : Fc) : ltF (1, 0) p = false := by
  simp only [ltF, decide_eq_false_iff_not]; omega

/-- The greatest mean of what n moves score; and behind a direction, with it. -/
def ScF : Nat → (Nat → Int) → Fc
  | 0, _ => (0, 1)
  | n + 1, f => (bmF f (fun d => plusF ((slideS f d 4).toNat, 1) (mnF (ScF n) (slideB f d))) 4).v
def scV (n : Nat) (f : Nat → Int) (d : Nat) : Fc := plusF ((slideS f d 4).toNat, 1) (mnF (ScF n) (slideB f d))
theorem scm_zero (f : Nat → Int) : ScF 0 f = (0, 1) := rfl
theorem scm_succ (n : Nat) (f : Nat → Int) : ScF (n + 1) f = (bmF f (scV n f) 4).v := rfl
theorem num_den {c : (Nat → Int) → Nat} {T : (Nat → Int) → Fc} {M : Nat} {f : Nat → Int} (hM : 0 < M) (hM2 : M ≤ 1125899906842624) (h : ∀ p, PlOk f p → T (plB f p) = (c (plB f p), 1) ∧ c (plB f p) ≤ M) : Den 1 M T f :=
  ⟨Nat.one_pos, hM, fun p hp => by rw [(h p hp).1]; exact fc_num _, fun p hp => by rw [(h p hp).1]; exact ⟨1, rfl⟩, fun p hp => by rw [(h p hp).1]; have := (h p hp).2; show c (plB f p) ≤ M * 1; omega, by omega⟩
theorem scm_one {f : Nat → Int} {d : Nat} (hf : Vd f) (hm : isMv f d = true) : scV 0 f d = ((slideS f d 4).toNat, 1) := by
  have hd : Den 1 1 (ScF 0) (slideB f d) := num_den (c := fun _ => 0) Nat.one_pos (by decide) (fun _ _ => ⟨rfl, by decide⟩)
  have hE := mv_room hf hm
  unfold scV
  rw [(mnF_rd hd hE).1]
  have hs : smL (ScF 0) (slideB f d) 1 (plA (slideB f d)) = 0 := by
    have := (mnF_rd hd hE).2
    unfold smL
    rw [List.sum_eq_zero_iff_forall_eq_nat.2]
    intro x hx
    obtain ⟨p, _, rfl⟩ := List.mem_map.1 hx
    show 0 * (1 / 1) * wtP p = 0
    omega
  rw [hs, rd_zero (by omega)]
  unfold plusF
  show rd ((slideS f d 4).toNat * 1 + 0 * 1) (1 * 1) = _
  rw [Nat.mul_one, Nat.zero_mul, Nat.add_zero, rd_one]
theorem ss_bd {f : Nat → Int} (hf : Vd f) (d : Nat) : (slideS f d 4).toNat ≤ 4194304 := by have := slideS_bd hf d 4 (Nat.le_refl _); omega
theorem scm_num {f : Nat → Int} (hf : Vd f) : (ScF 1 f).2 = 1 ∧ (ScF 1 f).1 ≤ 4194304 := by
  rw [scm_succ]
  exact bm_all (P := fun p => p.2 = 1 ∧ p.1 ≤ 4194304) ⟨rfl, Nat.zero_le _⟩ 4 fun d _ hm => by rw [scm_one hf hm]; exact ⟨rfl, ss_bd hf d⟩
theorem scm_dn {n : Nat} (hn : n ≤ 1) {f : Nat → Int} (hf : Vd f) : Den 1 4194304 (ScF n) f := by
  match n, hn with
  | 0, _ => exact num_den (c := fun _ => 0) (by decide) (by decide) (fun _ _ => ⟨rfl, by decide⟩)
  | 1, _ =>
    refine num_den (c := fun g => (ScF 1 g).1) (by decide) (by decide) (fun p hp => ?_)
    obtain ⟨a, b⟩ := scm_num (plB_vd hf hp)
    exact ⟨Prod.ext rfl a, b⟩
theorem scm_ok {n : Nat} (hn : n ≤ 1) {f : Nat → Int} {d : Nat} (hf : Vd f) (hm : isMv f d = true) :
    FcOk (mnF (ScF n) (slideB f d)) ∧ (mnF (ScF n) (slideB f d)).2 ≤ 160 ∧ (mnF (ScF n) (slideB f d)).1 ≤ 671088640 ∧ FcOk (scV n f d) ∧ (scV n f d).2 ≤ 160 ∧ (scV n f d).1 ≤ 1342177280 := by
  have hE := mv_room hf hm
  obtain ⟨a, b, c⟩ := mnF_ok (scm_dn hn (slideB_vd hf d)) hE
  have h1 := empN_le (slideB f d) 16
  have h2 := Nat.le_of_dvd (by omega) b
  have h3 := ss_bd hf d
  have hp := a.pos
  unfold scV
  generalize mnF (ScF n) (slideB f d) = m at *
  obtain ⟨x, y⟩ := m
  simp only at *
  refine ⟨a, by omega, by omega, ?_, ?_, ?_⟩
  · exact rd_ok (by show 0 < 1 * y; omega)
  · exact Nat.le_trans (rd_le2 _ _) (by show 1 * y ≤ 160; omega)
  · refine Nat.le_trans (rd_le1 _ _) ?_
    show (slideS f d 4).toNat * y + x * 1 ≤ _
    have := Nat.mul_le_mul h3 (show y ≤ 160 by omega)
    omega
end Go.Proofs.Ytkocfpldgjfpeaa.Plain
