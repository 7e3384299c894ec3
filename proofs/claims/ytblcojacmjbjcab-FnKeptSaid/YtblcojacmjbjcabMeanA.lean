/-
  Several texts in one:
  Plain facts on fractions without a common divisor. No program stands in this text.
  Plain facts on means behind a move, and on the best move. No program stands in this text.
  Plain facts on means told by the steps of a direction. No program stands in this text.
  Plain facts on what is told of the boards behind a move: chances and the room. No program stands in this text.
  Plain facts on the greatest of values over a list of moves. No program stands in this text.
-/
import Derived.Test.YtblcojacmjbjcabPlainA
import Derived.Test.YtblcojacmjbjcabWorstPlain
import Derived.Test.YtblcojacmjbjcabNextPlain
set_option linter.unusedSimpArgs false
namespace Go.Proofs.Ytblcojacmjbjcab.Plain
/-- A fraction: a numerator, and a denominator. -/
abbrev Fc := Nat × Nat
def rd (a b : Nat) : Fc := (a / Nat.gcd a b, b / Nat.gcd a b)
structure FcOk (p : Fc) : Prop where
  pos : 0 < p.2
  cop : Nat.gcd p.1 p.2 = 1
theorem rd_mul (a b : Nat) : (rd a b).1 * Nat.gcd a b = a ∧ (rd a b).2 * Nat.gcd a b = b :=
  ⟨Nat.div_mul_cancel (Nat.gcd_dvd_left a b), Nat.div_mul_cancel (Nat.gcd_dvd_right a b)⟩
theorem rd_gpos {a b : Nat} (hb : 0 < b) : 0 < Nat.gcd a b := Nat.gcd_pos_of_pos_right a hb
theorem rd_ok {a b : Nat} (hb : 0 < b) : FcOk (rd a b) := by
  have hg := rd_gpos (a := a) hb
  refine ⟨Nat.pos_of_ne_zero fun e => ?_, Nat.coprime_div_gcd_div_gcd hg⟩
  have := (rd_mul a b).2
  rw [e] at this; omega
theorem rd_le1 (a b : Nat) : (rd a b).1 ≤ a := Nat.div_le_self _ _
theorem rd_le2 (a b : Nat) : (rd a b).2 ≤ b := Nat.div_le_self _ _
theorem rd_dvd (a b : Nat) : (rd a b).2 ∣ b := ⟨Nat.gcd a b, (rd_mul a b).2.symm⟩
theorem rd_eqv {a b : Nat} : (rd a b).1 * b = a * (rd a b).2 := by
  obtain ⟨h1, h2⟩ := rd_mul a b
  generalize hp : (rd a b).1 = x at *
  generalize hq : (rd a b).2 = y at *
  generalize Nat.gcd a b = g at *
  rw [← h1, ← h2]
  simp [Nat.mul_comm, Nat.mul_left_comm, Nat.mul_assoc]
theorem fc_eq {p q : Fc} (hp : FcOk p) (hq : FcOk q) (h : p.1 * q.2 = q.1 * p.2) : p = q := by
  obtain ⟨a, b⟩ := p
  obtain ⟨c, d⟩ := q
  obtain ⟨hb, h1⟩ := hp
  obtain ⟨hd, h2⟩ := hq
  simp only at *
  have d1 : b ∣ d := by
    have : b ∣ d * a := ⟨c, by rw [Nat.mul_comm d a, h, Nat.mul_comm]⟩
    exact Nat.Coprime.dvd_of_dvd_mul_right (by show Nat.gcd b a = 1; rw [Nat.gcd_comm]; exact h1) this
  have d2 : d ∣ b := by
    have : d ∣ b * c := ⟨a, by rw [Nat.mul_comm b c, ← h, Nat.mul_comm]⟩
    exact Nat.Coprime.dvd_of_dvd_mul_right (by show Nat.gcd d c = 1; rw [Nat.gcd_comm]; exact h2) this
  have e := Nat.dvd_antisymm d1 d2
  subst e
  have := Nat.eq_of_mul_eq_mul_right hb h
  rw [this]
theorem rd_congr {a b c d : Nat} (hb : 0 < b) (hd : 0 < d) (h : a * d = c * b) : rd a b = rd c d := by
  refine fc_eq (rd_ok hb) (rd_ok hd) ?_
  have h1 : (rd a b).1 * b = a * (rd a b).2 := rd_eqv
  have h2 : (rd c d).1 * d = c * (rd c d).2 := rd_eqv
  generalize (rd a b).1 = x at *
  generalize (rd a b).2 = y at *
  generalize (rd c d).1 = z at *
  generalize (rd c d).2 = u at *
  have h3 : (x * u) * (b * d) = (z * y) * (b * d) := by
    calc (x * u) * (b * d) = (x * b) * (u * d) := by simp [Nat.mul_comm, Nat.mul_left_comm, Nat.mul_assoc]
      _ = (a * y) * (u * d) := by rw [h1]
      _ = (a * d) * (y * u) := by simp [Nat.mul_comm, Nat.mul_left_comm, Nat.mul_assoc]
      _ = (c * b) * (y * u) := by rw [h]
      _ = (c * u) * (y * b) := by simp [Nat.mul_comm, Nat.mul_left_comm, Nat.mul_assoc]
      _ = (z * d) * (y * b) := by rw [h2]
      _ = (z * y) * (b * d) := by simp [Nat.mul_comm, Nat.mul_left_comm, Nat.mul_assoc]
  exact Nat.eq_of_mul_eq_mul_right (Nat.mul_pos hb hd) h3
theorem rd_self {p : Fc} (hp : FcOk p) : rd p.1 p.2 = p := by
  unfold rd; rw [hp.cop]; simp
theorem rd_one (a : Nat) : rd a 1 = (a, 1) := by unfold rd; simp
theorem rd_zero {b : Nat} (hb : 0 < b) : rd 0 b = (0, 1) := by
  unfold rd; simp [Nat.div_self hb]
theorem rd_same {b : Nat} (hb : 0 < b) : rd b b = (1, 1) := by
  unfold rd; simp [Nat.div_self hb]
def plusF (p q : Fc) : Fc := rd (p.1 * q.2 + q.1 * p.2) (p.2 * q.2)
def timesF (p : Fc) (n : Nat) : Fc := rd (p.1 * n) p.2
def divF (p : Fc) (n : Nat) : Fc := rd p.1 (p.2 * n)
def partF (p : Fc) (w all : Nat) : Fc := rd (p.1 * w) (p.2 * all)
def ltF (p q : Fc) : Bool := decide (p.1 * q.2 < q.1 * p.2)
/-- Sums, multiples and parts of fractions of one denominator. -/
theorem plus_rd {a b D : Nat} (hD : 0 < D) : plusF (rd a D) (rd b D) = rd (a + b) D := by
  have h1 := rd_ok (a := a) hD
  have h2 := rd_ok (a := b) hD
  have e1 : (rd a D).1 * D = a * (rd a D).2 := rd_eqv
  have e2 : (rd b D).1 * D = b * (rd b D).2 := rd_eqv
  unfold plusF
  refine rd_congr (Nat.mul_pos h1.pos h2.pos) hD ?_
  generalize (rd a D).1 = x at *
  generalize (rd a D).2 = y at *
  generalize (rd b D).1 = z at *
  generalize (rd b D).2 = u at *
  calc (x * u + z * y) * D = (x * D) * u + (z * D) * y := by rw [Nat.add_mul]; congr 1 <;> simp [Nat.mul_comm, Nat.mul_left_comm, Nat.mul_assoc]
    _ = (a * y) * u + (b * u) * y := by rw [e1, e2]
    _ = (a + b) * (y * u) := by rw [Nat.add_mul]; congr 1 <;> simp [Nat.mul_comm, Nat.mul_left_comm, Nat.mul_assoc]
theorem times_rd {a D n : Nat} (hD : 0 < D) : timesF (rd a D) n = rd (a * n) D := by
  have h1 := rd_ok (a := a) hD
  have e1 : (rd a D).1 * D = a * (rd a D).2 := rd_eqv
  unfold timesF
  refine rd_congr h1.pos hD ?_
  calc (rd a D).1 * n * D = ((rd a D).1 * D) * n := by simp [Nat.mul_comm, Nat.mul_left_comm, Nat.mul_assoc]
    _ = (a * (rd a D).2) * n := by rw [e1]
    _ = a * n * (rd a D).2 := by simp [Nat.mul_comm, Nat.mul_left_comm, Nat.mul_assoc]
theorem part_rd {a D w all : Nat} (hD : 0 < D) (ha : 0 < all) : partF (rd a D) w all = rd (a * w) (D * all) := by
  have h1 := rd_ok (a := a) hD
  have e1 : (rd a D).1 * D = a * (rd a D).2 := rd_eqv
  unfold partF
  refine rd_congr (Nat.mul_pos h1.pos ha) (Nat.mul_pos hD ha) ?_
  calc (rd a D).1 * w * (D * all) = ((rd a D).1 * D) * (w * all) := by simp [Nat.mul_comm, Nat.mul_left_comm, Nat.mul_assoc]
    _ = (a * (rd a D).2) * (w * all) := by rw [e1]
    _ = a * w * ((rd a D).2 * all) := by simp [Nat.mul_comm, Nat.mul_left_comm, Nat.mul_assoc]
theorem div_rd {a D all : Nat} (hD : 0 < D) (ha : 0 < all) : divF (rd a D) all = rd a (D * all) := by
  have h := part_rd (a := a) (w := 1) hD ha
  unfold partF at h
  unfold divF
  rw [Nat.mul_one, Nat.mul_one] at h
  exact h
theorem fc_rd {p : Fc} {D : Nat} (hp : FcOk p) (hD : 0 < D) (h : p.2 ∣ D) : p = rd (p.1 * (D / p.2)) D := by
  refine fc_eq hp (rd_ok hD) ?_
  obtain ⟨k, rfl⟩ := h
  have hk : 0 < k := Nat.pos_of_ne_zero fun e => by subst e; simp at hD
  rw [Nat.mul_div_cancel_left k hp.pos]
  have e1 : (rd (p.1 * k) (p.2 * k)).1 * (p.2 * k) = (p.1 * k) * (rd (p.1 * k) (p.2 * k)).2 := rd_eqv
  generalize (rd (p.1 * k) (p.2 * k)).1 = x at *
  generalize (rd (p.1 * k) (p.2 * k)).2 = y at *
  have : (p.1 * y) * k = (x * p.2) * k := by
    rw [show p.1 * y * k = p.1 * k * y by simp [Nat.mul_comm, Nat.mul_left_comm, Nat.mul_assoc], ← e1, Nat.mul_assoc]
  exact Nat.eq_of_mul_eq_mul_right hk this
theorem ltF_irrefl (p : Fc) : ltF p p = false := by simp [ltF]
theorem ltF_rd {a b D : Nat} (hD : 0 < D) : ltF (rd a D) (rd b D) = decide (a < b) := by
  have h1 := rd_ok (a := a) hD
  have h2 := rd_ok (a := b) hD
  have e1 : (rd a D).1 * D = a * (rd a D).2 := rd_eqv
  have e2 : (rd b D).1 * D = b * (rd b D).2 := rd_eqv
  have h1p := h1.pos
  have h2p := h2.pos
  unfold ltF
  generalize (rd a D).1 = x at *
  generalize (rd a D).2 = y at *
  generalize (rd b D).1 = z at *
  generalize (rd b D).2 = u at *
  have e3 : (x * u) * D = a * (y * u) := by rw [show x * u * D = x * D * u by simp [Nat.mul_comm, Nat.mul_left_comm, Nat.mul_assoc], e1, Nat.mul_assoc]
  have e4 : (z * y) * D = b * (y * u) := by rw [show z * y * D = z * D * y by simp [Nat.mul_comm, Nat.mul_left_comm, Nat.mul_assoc], e2, Nat.mul_assoc, Nat.mul_comm u y]
  have hyu : 0 < y * u := Nat.mul_pos h1p h2p
  rw [decide_eq_decide]
  constructor
  · intro h
    have := Nat.mul_lt_mul_of_pos_right h hD
    rw [e3, e4] at this
    exact Nat.lt_of_mul_lt_mul_right this
  · intro h
    have := Nat.mul_lt_mul_of_pos_right h hyu
    rw [← e3, ← e4] at this
    exact Nat.lt_of_mul_lt_mul_right this
/-- Euclid's steps. -/
theorem gcd_step (d r : Nat) : Nat.gcd r (d % r) = Nat.gcd d r := by
  rw [Nat.gcd_comm d r, Nat.gcd_rec r d, Nat.gcd_comm]
theorem gcd_end (d : Nat) : Nat.gcd d 0 = d := Nat.gcd_zero_right d
/-- The two numbers of a fraction, as they lie in memory. -/
def fcF (p : Fc) : Nat → Int := fun i => if i = 0 then (p.1 : Int) else (p.2 : Int)
theorem fcF0 (p : Fc) : fcF p 0 = (p.1 : Int) := rfl
theorem fcF1 (p : Fc) : fcF p 1 = (p.2 : Int) := rfl
end Go.Proofs.Ytblcojacmjbjcab.Plain
set_option linter.unusedSimpArgs false
namespace Go.Proofs.Ytblcojacmjbjcab.Plain
/-- The weight of a placement. -/
def wtP (p : Nat × Nat) : Nat := if p.2 = 2 then 1 else 9
theorem wtP_le (p : Nat × Nat) : 1 ≤ wtP p ∧ wtP p ≤ 9 := by unfold wtP; split <;> omega
def wtL (L : List (Nat × Nat)) : Nat := (L.map wtP).sum
theorem wtL_snoc (L : List (Nat × Nat)) (p : Nat × Nat) : wtL (L ++ [p]) = wtL L + wtP p := by simp [wtL]
theorem wtL_app (L M : List (Nat × Nat)) : wtL (L ++ M) = wtL L + wtL M := by simp [wtL]
theorem wtL_two (E : List Nat) : wtL (E.flatMap fun j => [(j, 1), (j, 2)]) = 10 * E.length := by
  induction E with
  | nil => rfl
  | cons a E ih =>
    rw [List.flatMap_cons, wtL_app, ih, List.length_cons]
    have : wtL [(a, 1), (a, 2)] = 10 := rfl
    rw [this]; omega
theorem wtL_all (f : Nat → Int) : wtL (plA f) = 10 * empN f 16 := by unfold plA; rw [wtL_two, emI_len]
theorem wtL_pre {f : Nat → Int} {L M : List (Nat × Nat)} (h : plA f = L ++ M) : wtL L ≤ 160 := by
  have h1 := wtL_all f
  have h2 := empN_le f 16
  rw [h, wtL_app] at h1
  omega
/-- What meanBehind sums up. -/
def mnS (T : (Nat → Int) → Fc) (f : Nat → Int) (s : Fc × Nat) (p : Nat × Nat) : Fc × Nat := (plusF s.1 (timesF (T (plB f p)) (wtP p)), s.2 + wtP p)
def mnR (T : (Nat → Int) → Fc) (f : Nat → Int) (L : List (Nat × Nat)) : Fc × Nat := L.foldl (mnS T f) ((0, 1), 0)
theorem mnR_nil (T : (Nat → Int) → Fc) (f : Nat → Int) : mnR T f [] = ((0, 1), 0) := rfl
theorem mnR_snoc (T : (Nat → Int) → Fc) (f : Nat → Int) (L : List (Nat × Nat)) (p : Nat × Nat) : mnR T f (L ++ [p]) = mnS T f (mnR T f L) p := by simp [mnR, List.foldl_append]
def mnF (T : (Nat → Int) → Fc) (f : Nat → Int) : Fc := divF (mnR T f (plA f)).1 (mnR T f (plA f)).2
theorem mnR_w (T : (Nat → Int) → Fc) (f : Nat → Int) (L : List (Nat × Nat)) : (mnR T f L).2 = wtL L :=
  list_snoc (fun L => (mnR T f L).2 = wtL L) rfl (fun L x ih => by rw [mnR_snoc, wtL_snoc, ← ih]; rfl) L
/-- What is asked of what is told of the boards behind a move: denominators divide D, and nothing is more than M. -/
structure Den (D M : Nat) (T : (Nat → Int) → Fc) (f : Nat → Int) : Prop where
  D_pos : 0 < D
  M_pos : 0 < M
  ok : ∀ p, PlOk f p → FcOk (T (plB f p))
  dvd : ∀ p, PlOk f p → (T (plB f p)).2 ∣ D
  le : ∀ p, PlOk f p → (T (plB f p)).1 ≤ M * (T (plB f p)).2
  small : M * (D * D) ≤ 1125899906842624
def tpN (T : (Nat → Int) → Fc) (f : Nat → Int) (D : Nat) (p : Nat × Nat) : Nat := (T (plB f p)).1 * (D / (T (plB f p)).2)
def smL (T : (Nat → Int) → Fc) (f : Nat → Int) (D : Nat) (L : List (Nat × Nat)) : Nat := (L.map fun p => tpN T f D p * wtP p).sum
theorem smL_snoc (T : (Nat → Int) → Fc) (f : Nat → Int) (D : Nat) (L : List (Nat × Nat)) (p : Nat × Nat) : smL T f D (L ++ [p]) = smL T f D L + tpN T f D p * wtP p := by simp [smL]
theorem Den.at {D M : Nat} {T : (Nat → Int) → Fc} {f : Nat → Int} (h : Den D M T f) {p : Nat × Nat} (hp : PlOk f p) :
    T (plB f p) = rd (tpN T f D p) D ∧ tpN T f D p ≤ M * D := by
  refine ⟨fc_rd (h.ok p hp) h.D_pos (h.dvd p hp), ?_⟩
  unfold tpN
  have h1 := h.le p hp
  have h2 := Nat.mul_le_mul_right (D / (T (plB f p)).2) h1
  refine Nat.le_trans h2 ?_
  rw [Nat.mul_assoc, Nat.mul_div_cancel' (h.dvd p hp)]
  exact Nat.le_refl _
theorem mnR_rd {D M : Nat} {T : (Nat → Int) → Fc} {f : Nat → Int} (h : Den D M T f) (L : List (Nat × Nat)) : (∀ p, p ∈ L → PlOk f p) → (mnR T f L).1 = rd (smL T f D L) D ∧ smL T f D L ≤ M * D * wtL L := by
  refine list_snoc (fun L => (∀ p, p ∈ L → PlOk f p) → (mnR T f L).1 = rd (smL T f D L) D ∧ smL T f D L ≤ M * D * wtL L) (fun _ => ?_) (fun L x ih hL => ?_) L
  · exact ⟨(rd_zero h.D_pos).symm, Nat.zero_le _⟩
  · obtain ⟨i1, i2⟩ := ih (fun p hp => hL p (by simp [hp]))
    obtain ⟨e1, e2⟩ := h.at (hL x (by simp))
    rw [mnR_snoc, smL_snoc, wtL_snoc]
    refine ⟨?_, ?_⟩
    · show plusF (mnR T f L).1 (timesF (T (plB f x)) (wtP x)) = _
      rw [i1, e1, times_rd h.D_pos, plus_rd h.D_pos]
    · rw [Nat.mul_add]
      exact Nat.add_le_add i2 (Nat.mul_le_mul_right _ e2)
theorem pl_pre {f : Nat → Int} {L M : List (Nat × Nat)} (h : plA f = L ++ M) : ∀ p, p ∈ L → PlOk f p := fun p hp => plA_ok.1 (by rw [h]; simp [hp])
/-- The mean as one fraction. -/
theorem mnF_rd {D M : Nat} {T : (Nat → Int) → Fc} {f : Nat → Int} (h : Den D M T f) (hE : 0 < empN f 16) : mnF T f = rd (smL T f D (plA f)) (D * (10 * empN f 16)) ∧ smL T f D (plA f) ≤ M * (D * (10 * empN f 16)) := by
  obtain ⟨h1, h2⟩ := mnR_rd h (plA f) (fun p hp => plA_ok.1 hp)
  unfold mnF
  rw [mnR_w, h1, wtL_all, div_rd h.D_pos (by omega)]
  refine ⟨rfl, ?_⟩
  rw [wtL_all, Nat.mul_assoc] at h2
  exact h2
theorem fc_le_rd {S Q M : Nat} (hQ : 0 < Q) (h : S ≤ M * Q) : (rd S Q).1 ≤ M * (rd S Q).2 := by
  have e : (rd S Q).1 * Q = S * (rd S Q).2 := rd_eqv
  refine Nat.le_of_mul_le_mul_right (c := Q) ?_ hQ
  rw [e, show M * (rd S Q).2 * Q = M * Q * (rd S Q).2 by simp [Nat.mul_comm, Nat.mul_left_comm, Nat.mul_assoc]]
  exact Nat.mul_le_mul_right _ h
theorem mnF_ok {D M : Nat} {T : (Nat → Int) → Fc} {f : Nat → Int} (h : Den D M T f) (hE : 0 < empN f 16) :
    FcOk (mnF T f) ∧ (mnF T f).2 ∣ D * (10 * empN f 16) ∧ (mnF T f).1 ≤ M * (mnF T f).2 := by
  obtain ⟨h1, h2⟩ := mnF_rd h hE
  have hQ : 0 < D * (10 * empN f 16) := Nat.mul_pos h.D_pos (by omega)
  rw [h1]
  exact ⟨rd_ok hQ, rd_dvd _ _, fc_le_rd hQ h2⟩
theorem wtL_le (L : List (Nat × Nat)) : wtL L ≤ 9 * L.length :=
  list_snoc (fun L => wtL L ≤ 9 * L.length) (Nat.le_refl _) (fun L x ih => by have := wtP_le x; rw [wtL_snoc, List.length_append, List.length_singleton]; omega) L
/-- Bounds for one round of meanBehind. -/
theorem mn_round {D M : Nat} {T : (Nat → Int) → Fc} {f : Nat → Int} (h : Den D M T f) {L : List (Nat × Nat)} {p : Nat × Nat} (hp : PlOk f p) (hL : ∀ q, q ∈ L → PlOk f q) (hlen : L.length ≤ 32) :
    0 < (T (plB f p)).2 ∧ 0 < (mnR T f L).1.2 ∧ 0 < (timesF (T (plB f p)) (wtP p)).2 ∧ (T (plB f p)).1 * wtP p ≤ 4611686018427387904 ∧ (T (plB f p)).2 ≤ 4611686018427387904 ∧
    (mnR T f L).1.1 * (timesF (T (plB f p)) (wtP p)).2 ≤ 2305843009213693952 ∧ (timesF (T (plB f p)) (wtP p)).1 * (mnR T f L).1.2 ≤ 2305843009213693952 ∧ (mnR T f L).1.2 * (timesF (T (plB f p)) (wtP p)).2 ≤ 4611686018427387904 ∧ (mnR T f L).2 ≤ 300 := by
  obtain ⟨h1, h2⟩ := mnR_rd h L hL
  obtain ⟨e1, e2⟩ := h.at hp
  have hD := h.D_pos
  have hM := h.M_pos
  have hs := h.small
  have hw : wtL L ≤ 300 := by have := wtL_le L; omega
  have hwp := wtP_le p
  have hT := h.ok p hp
  have et : timesF (T (plB f p)) (wtP p) = rd (tpN T f D p * wtP p) D := by rw [e1]; exact times_rd hD
  have a1 : (mnR T f L).1.1 ≤ M * D * 300 := by rw [h1]; exact Nat.le_trans (rd_le1 _ _) (Nat.le_trans h2 (Nat.mul_le_mul_left _ hw))
  have a2 : (mnR T f L).1.2 ≤ D := by rw [h1]; exact rd_le2 _ _
  have a3 : (timesF (T (plB f p)) (wtP p)).1 ≤ M * D * 9 := by rw [et]; exact Nat.le_trans (rd_le1 _ _) (Nat.mul_le_mul e2 hwp.2)
  have a4 : (timesF (T (plB f p)) (wtP p)).2 ≤ D := by rw [et]; exact rd_le2 _ _
  have hDD : D ≤ D * D := Nat.le_mul_of_pos_right D hD
  have hMDD : D * D ≤ M * (D * D) := Nat.le_mul_of_pos_left _ hM
  refine ⟨hT.pos, by rw [h1]; exact (rd_ok hD).pos, by rw [et]; exact (rd_ok hD).pos, ?_, ?_, ?_, ?_, ?_, by rw [mnR_w]; exact hw⟩
  · have b1 := h.le p hp
    have b2 : (T (plB f p)).2 ≤ D := Nat.le_of_dvd hD (h.dvd p hp)
    have b3 : (T (plB f p)).1 ≤ M * (D * D) := Nat.le_trans b1 (Nat.mul_le_mul_left _ (Nat.le_trans b2 hDD))
    have := Nat.mul_le_mul b3 hwp.2
    omega
  · have b2 : (T (plB f p)).2 ≤ D := Nat.le_of_dvd hD (h.dvd p hp)
    omega
  · have := Nat.mul_le_mul a1 a4
    have e : M * D * 300 * D = 300 * (M * (D * D)) := by simp [Nat.mul_comm, Nat.mul_left_comm, Nat.mul_assoc]
    rw [e] at this; omega
  · have := Nat.mul_le_mul a3 a2
    have e : M * D * 9 * D = 9 * (M * (D * D)) := by simp [Nat.mul_comm, Nat.mul_left_comm, Nat.mul_assoc]
    rw [e] at this; omega
  · have := Nat.mul_le_mul a2 a4
    omega
/-- Bounds for what follows the last round. -/
theorem mn_end {D M : Nat} {T : (Nat → Int) → Fc} {f : Nat → Int} (h : Den D M T f) (hE : 0 < empN f 16) :
    0 < (mnR T f (plA f)).1.2 ∧ 0 < (mnR T f (plA f)).2 ∧ (mnR T f (plA f)).1.1 ≤ 180143985094819840 ∧ (mnR T f (plA f)).1.2 * (mnR T f (plA f)).2 ≤ 180143985094819840 := by
  obtain ⟨h1, h2⟩ := mnR_rd h (plA f) (fun p hp => plA_ok.1 hp)
  have hD := h.D_pos
  have hM := h.M_pos
  have hs := h.small
  have hw := wtL_pre (f := f) (L := plA f) (M := []) (by simp)
  have hDD : D ≤ D * D := Nat.le_mul_of_pos_right D hD
  have hMDD : D * D ≤ M * (D * D) := Nat.le_mul_of_pos_left _ hM
  have a1 : (mnR T f (plA f)).1.1 ≤ M * D * 160 := by rw [h1]; exact Nat.le_trans (rd_le1 _ _) (Nat.le_trans h2 (Nat.mul_le_mul_left _ hw))
  have a2 : (mnR T f (plA f)).1.2 ≤ D := by rw [h1]; exact rd_le2 _ _
  refine ⟨by rw [h1]; exact (rd_ok hD).pos, by rw [mnR_w, wtL_all]; omega, ?_, ?_⟩
  · have : M * D ≤ M * (D * D) := Nat.mul_le_mul_left _ hDD
    omega
  · rw [mnR_w]
    have := Nat.mul_le_mul a2 hw
    omega

/-- The first of the first k directions that are moves for which a fraction is the greatest, and this fraction. -/
structure Bm where
  d : Nat
  v : Fc
  ok : Bool
def bm0 : Bm := ⟨0, (0, 1), false⟩
def bmF (f : Nat → Int) (V : Nat → Fc) : Nat → Bm
  | 0 => bm0
  | k + 1 => if isMv f k = true then (if (bmF f V k).ok = false ∨ ltF (bmF f V k).v (V k) = true then ⟨k, V k, true⟩ else bmF f V k) else bmF f V k
theorem bm_still {f : Nat → Int} {V : Nat → Fc} {k : Nat} (h : isMv f k = false) : bmF f V (k + 1) = bmF f V k := by simp [bmF, h]
theorem bm_yes {f : Nat → Int} {V : Nat → Fc} {k : Nat} (h : isMv f k = true) (h2 : (bmF f V k).ok = false ∨ ltF (bmF f V k).v (V k) = true) : bmF f V (k + 1) = ⟨k, V k, true⟩ := by simp only [bmF, h, h2, if_true]
theorem bm_no {f : Nat → Int} {V : Nat → Fc} {k : Nat} (h : isMv f k = true) (h2 : ¬ ((bmF f V k).ok = false ∨ ltF (bmF f V k).v (V k) = true)) : bmF f V (k + 1) = bmF f V k := by simp only [bmF, h, h2, if_true, if_false]
theorem bm_ok_iff (f : Nat → Int) (V : Nat → Fc) : ∀ k, (bmF f V k).ok = decide ((movL f k).length ≠ 0)
  | 0 => rfl
  | k + 1 => by
    have ih := bm_ok_iff f V k
    cases hm : isMv f k with
    | false => rw [bm_still hm, mov_no hm]; exact ih
    | true =>
      rw [mov_yes hm]
      by_cases h : (bmF f V k).ok = false ∨ ltF (bmF f V k).v (V k) = true
      · rw [bm_yes hm h]; simp
      · rw [bm_no hm h]
        simp only [not_or, Bool.not_eq_false] at h
        rw [h.1]; simp
theorem bm_move {f : Nat → Int} {V : Nat → Fc} {k : Nat} (h : isMv f k = true) : (bmF f V (k + 1)).ok = true := by
  rw [bm_ok_iff, mov_yes h]; simp
theorem bm_d_le (f : Nat → Int) (V : Nat → Fc) : ∀ k, (bmF f V k).d ≤ k
  | 0 => Nat.le_refl _
  | k + 1 => by
    have ih := bm_d_le f V k
    unfold bmF
    split
    · split
      · exact Nat.le_succ k
      · omega
    · omega
/-- Behind the greatest that there can be, nothing changes any more. -/
theorem bm_stop {f : Nat → Int} {V : Nat → Fc} {e : Fc} (h : ∀ d, d < 4 → isMv f d = true → ltF e (V d) = false) {k : Nat} (hok : (bmF f V k).ok = true) (hv : (bmF f V k).v = e) : ∀ j, k + j ≤ 4 → bmF f V (k + j) = bmF f V k
  | 0, _ => rfl
  | j + 1, hj => by
    have ih := bm_stop h hok hv j (by omega)
    show bmF f V ((k + j) + 1) = _
    cases hm : isMv f (k + j) with
    | false => rw [bm_still hm]; exact ih
    | true =>
      rw [bm_no hm]
      · exact ih
      · rw [ih, hok, hv, h (k + j) (by omega) hm]; simp
theorem bm_congr {f : Nat → Int} {V W : Nat → Fc} : ∀ k, (∀ d, d < k → isMv f d = true → V d = W d) → bmF f V k = bmF f W k
  | 0, _ => rfl
  | k + 1, h => by
    have ih := bm_congr k (fun d hd => h d (by omega))
    cases hm : isMv f k with
    | false => rw [bm_still hm, bm_still hm]; exact ih
    | true => unfold bmF; rw [ih, h k (by omega) hm]
/-- What holds of all values, and of none, holds of the greatest. -/
theorem bm_all {f : Nat → Int} {V : Nat → Fc} {P : Fc → Prop} (h0 : P (0, 1)) : ∀ k, (∀ d, d < k → isMv f d = true → P (V d)) → P (bmF f V k).v
  | 0, _ => h0
  | k + 1, h => by
    have ih := bm_all h0 k (fun d hd => h d (by omega))
    cases hm : isMv f k with
    | false => rw [bm_still hm]; exact ih
    | true =>
      by_cases h2 : (bmF f V k).ok = false ∨ ltF (bmF f V k).v (V k) = true
      · rw [bm_yes hm h2]; exact h k (by omega) hm
      · rw [bm_no hm h2]; exact ih
theorem fc_zero {p : Fc} (hp : FcOk p) (h : p.1 = 0) : p = (0, 1) := by
  obtain ⟨a, b⟩ := p
  have := hp.cop
  simp only at h this
  subst h
  simp at this
  rw [this]
/-- The greatest one, as the reference has it: begun with none. -/
def mxF (f : Nat → Int) (V : Nat → Fc) : Nat → Fc
  | 0 => (0, 1)
  | k + 1 => if isMv f k = true ∧ ltF (mxF f V k) (V k) = true then V k else mxF f V k
theorem mx_bm {f : Nat → Int} {V : Nat → Fc} : ∀ k, (∀ d, d < k → isMv f d = true → FcOk (V d)) → mxF f V k = (bmF f V k).v
  | 0, _ => rfl
  | k + 1, h => by
    have ih := mx_bm k (fun d hd => h d (by omega))
    cases hm : isMv f k with
    | false => rw [bm_still hm, ← ih]; simp [mxF, hm]
    | true =>
      by_cases h2 : ltF (bmF f V k).v (V k) = true
      · rw [bm_yes hm (.inr h2)]; unfold mxF; rw [ih, if_pos ⟨hm, h2⟩]
      · have e : mxF f V (k + 1) = (bmF f V k).v := by unfold mxF; rw [ih, if_neg (fun q => h2 q.2)]
        rw [e]
        cases ho : (bmF f V k).ok with
        | true => rw [bm_no hm (by rw [ho]; simp [h2])]
        | false =>
          rw [bm_yes hm (.inl ho)]
          have hz : (bmF f V k).v = (0, 1) := by
            have : ∀ j, (bmF f V j).ok = false → (bmF f V j).v = (0, 1) := by
              intro j
              induction j with
              | zero => intro _; rfl
              | succ j ihj =>
                intro hj
                cases hmj : isMv f j with
                | false => rw [bm_still hmj] at hj ⊢; exact ihj hj
                | true => rw [bm_move hmj] at hj; cases hj
            exact this k ho
          rw [hz] at h2 ⊢
          have hk := h k (by omega) hm
          refine (fc_zero hk ?_).symm
          simp only [ltF, decide_eq_true_eq, Nat.zero_mul, Nat.mul_one] at h2
          omega
theorem ltF_trans {p q r : Fc} (hq : FcOk q) (hp : FcOk p) (h1 : ltF q p = false) (h2 : ltF q r = true) : ltF p r = true := by
  simp only [ltF, decide_eq_true_eq, decide_eq_false_iff_not, Nat.not_lt] at h1 h2 ⊢
  obtain ⟨a, b⟩ := p
  obtain ⟨c, d⟩ := q
  obtain ⟨e, g⟩ := r
  have hd : 0 < d := hq.pos
  have hb : 0 < b := hp.pos
  simp only at h1 h2 ⊢
  have x1 := Nat.mul_le_mul_right g h1
  have x2 := Nat.mul_lt_mul_of_pos_right h2 hb
  have x3 : (a * g) * d < (e * b) * d := by
    calc (a * g) * d = a * d * g := by simp [Nat.mul_comm, Nat.mul_left_comm, Nat.mul_assoc]
      _ ≤ c * b * g := x1
      _ = c * g * b := by simp [Nat.mul_comm, Nat.mul_left_comm, Nat.mul_assoc]
      _ < e * d * b := x2
      _ = (e * b) * d := by simp [Nat.mul_comm, Nat.mul_left_comm, Nat.mul_assoc]
  exact Nat.lt_of_mul_lt_mul_right x3
theorem ltF_asymm {p q : Fc} (h : ltF p q = true) : ltF q p = false := by
  simp only [ltF, decide_eq_true_eq, decide_eq_false_iff_not, Nat.not_lt] at h ⊢; omega
/-- No value is more than the greatest one, and its direction is the first that has it. -/
theorem bm_first {f : Nat → Int} {V : Nat → Fc} : ∀ k, (∀ d, d < k → isMv f d = true → FcOk (V d)) →
    (∀ e, e < k → isMv f e = true → (bmF f V k).ok = true ∧ ltF (bmF f V k).v (V e) = false) ∧
    ((bmF f V k).ok = true → FcOk (bmF f V k).v ∧ (bmF f V k).d < k ∧ isMv f (bmF f V k).d = true ∧ V (bmF f V k).d = (bmF f V k).v ∧ ∀ e, e < (bmF f V k).d → isMv f e = true → ltF (V e) (bmF f V k).v = true)
  | 0, _ => ⟨fun e he => by omega, fun h => by cases h⟩
  | k + 1, hV => by
    obtain ⟨i1, i2⟩ := bm_first k (fun d hd => hV d (by omega))
    cases hm : isMv f k with
    | false =>
      rw [bm_still hm]
      refine ⟨fun e he hme => ?_, fun h => ?_⟩
      · have : e ≠ k := fun q => by subst q; rw [hm] at hme; cases hme
        exact i1 e (by omega) hme
      · obtain ⟨o, a, b, c, d⟩ := i2 h
        exact ⟨o, by omega, b, c, d⟩
    | true =>
      by_cases h2 : (bmF f V k).ok = false ∨ ltF (bmF f V k).v (V k) = true
      · rw [bm_yes hm h2]
        have key : ∀ e, e < k → isMv f e = true → ltF (V e) (V k) = true := fun e he hme => by
          obtain ⟨ok, hle⟩ := i1 e he hme
          have h2 : ltF (bmF f V k).v (V k) = true := by
            rcases h2 with h2 | h2
            · rw [ok] at h2; cases h2
            · exact h2
          exact ltF_trans (i2 ok).1 (hV e (by omega) hme) hle h2
        refine ⟨fun e he hme => ⟨rfl, ?_⟩, fun _ => ⟨hV k (by omega) hm, Nat.lt_succ_self k, hm, rfl, fun e he hme => key e he hme⟩⟩
        by_cases q : e = k
        · subst q; exact ltF_irrefl _
        · exact ltF_asymm (key e (by omega) hme)
      · rw [bm_no hm h2]
        simp only [not_or, Bool.not_eq_false, Bool.not_eq_true] at h2
        refine ⟨fun e he hme => ?_, fun h => ?_⟩
        · by_cases q : e = k
          · subst q; exact h2
          · exact i1 e (by omega) hme
        · obtain ⟨o, a, b, c, d⟩ := i2 h
          exact ⟨o, by omega, b, c, d⟩

/-- The chance to have n moves, played well; and behind a direction. -/
def KpF : Nat → (Nat → Int) → Fc
  | 0, _ => (1, 1)
  | n + 1, f => (bmF f (fun d => mnF (KpF n) (slideB f d)) 4).v
def kbV (n : Nat) (f : Nat → Int) (d : Nat) : Fc := mnF (KpF n) (slideB f d)
theorem kp_zero (f : Nat → Int) : KpF 0 f = (1, 1) := rfl
theorem kp_succ (n : Nat) (f : Nat → Int) : KpF (n + 1) f = (bmF f (kbV n f) 4).v := rfl
/-- What the chances of n moves are divided by, at most. -/
def dnK : Nat → Nat
  | 0 | 1 => 1
  | _ => 7207200
theorem dnK_pos (n : Nat) : 0 < dnK n := by unfold dnK; split <;> decide
theorem dnK_le (n : Nat) : dnK n ≤ 7207200 := by unfold dnK; split <;> decide
theorem fc_one : FcOk (1, 1) := ⟨Nat.one_pos, rfl⟩
theorem fc_nil : FcOk (0, 1) := ⟨Nat.one_pos, rfl⟩
theorem fc_num (n : Nat) : FcOk (n, 1) := ⟨Nat.one_pos, by simp⟩
theorem dvd_ten (E : Nat) (h : 0 < E) (h2 : E ≤ 16) : 10 * E ∣ 7207200 := by
  have : ∀ k, k < 16 → 10 * (k + 1) ∣ 7207200 := by decide
  have := this (E - 1) (by omega)
  rwa [Nat.sub_add_cancel h] at this
structure KpOk (n : Nat) (p : Fc) : Prop where
  ok : FcOk p
  dvd : p.2 ∣ dnK n
  le : p.1 ≤ 1 * p.2
theorem kp_den {n : Nat} (h : ∀ g, Vd g → KpOk n (KpF n g)) {f : Nat → Int} (hf : Vd f) : Den (dnK n) 1 (KpF n) f :=
  ⟨dnK_pos n, Nat.one_pos, fun p hp => (h _ (plB_vd hf hp)).ok, fun p hp => (h _ (plB_vd hf hp)).dvd, fun p hp => (h _ (plB_vd hf hp)).le, by
    have := dnK_le n
    have := Nat.mul_le_mul this this
    omega⟩
theorem kp_one {f : Nat → Int} {d : Nat} (hf : Vd f) (hm : isMv f d = true) : kbV 0 f d = (1, 1) := by
  have hd : Den 1 1 (KpF 0) (slideB f d) := ⟨Nat.one_pos, Nat.one_pos, fun _ _ => fc_one, fun _ _ => ⟨1, rfl⟩, fun _ _ => Nat.le_refl _, by decide⟩
  have hE := mv_room hf hm
  unfold kbV
  rw [(mnF_rd hd hE).1]
  have hs : ∀ L, smL (KpF 0) (slideB f d) 1 L = wtL L := fun L => by
    unfold smL wtL
    congr 1
    refine List.map_congr_left fun p _ => ?_
    show 1 * (1 / 1) * wtP p = wtP p
    omega
  rw [hs, wtL_all, Nat.one_mul]
  exact rd_same (by omega)
theorem kp_ok : ∀ (n : Nat), n ≤ 2 → ∀ {f : Nat → Int}, Vd f → KpOk n (KpF n f)
  | 0, _, _, _ => ⟨fc_one, ⟨1, rfl⟩, Nat.le_refl _⟩
  | 1, _, f, hf => by
    rw [kp_succ]
    exact bm_all (P := KpOk 1) ⟨fc_nil, ⟨1, rfl⟩, Nat.zero_le _⟩ 4 fun d _ hm => by
      rw [kp_one hf hm]; exact ⟨fc_one, ⟨1, rfl⟩, Nat.le_refl _⟩
  | 2, _, f, hf => by
    rw [kp_succ]
    refine bm_all (P := KpOk 2) ⟨fc_nil, ⟨7207200, rfl⟩, Nat.zero_le _⟩ 4 fun d _ hm => ?_
    have hE := mv_room hf hm
    obtain ⟨a, b, c⟩ := mnF_ok (kp_den (n := 1) (fun g hg => kp_ok 1 (by omega) hg) (slideB_vd hf d)) hE
    refine ⟨a, Nat.dvd_trans b ?_, c⟩
    show 1 * (10 * empN (slideB f d) 16) ∣ 7207200
    rw [Nat.one_mul]
    exact dvd_ten _ hE (empN_le _ 16)
theorem kp_dn {n : Nat} (hn : n ≤ 2) {f : Nat → Int} (hf : Vd f) : Den (dnK n) 1 (KpF n) f := kp_den (fun _ hg => kp_ok n hn hg) hf
/-- What is told of a direction that is a move. -/
theorem kb_ok {n : Nat} (hn : n ≤ 2) {f : Nat → Int} {d : Nat} (hf : Vd f) (hm : isMv f d = true) : FcOk (kbV n f d) ∧ (kbV n f d).1 ≤ (kbV n f d).2 ∧ (kbV n f d).2 ≤ 1153152000 := by
  have hE := mv_room hf hm
  obtain ⟨a, b, c⟩ := mnF_ok (kp_dn hn (slideB_vd hf d)) hE
  refine ⟨a, by rw [Nat.one_mul] at c; exact c, ?_⟩
  have h1 := empN_le (slideB f d) 16
  have h2 := Nat.le_of_dvd (Nat.mul_pos (dnK_pos n) (by omega)) b
  have h3 := Nat.mul_le_mul (dnK_le n) (show 10 * empN (slideB f d) 16 ≤ 160 by omega)
  exact Nat.le_trans h2 h3
theorem kp_le {n : Nat} (hn : n ≤ 3) {f : Nat → Int} (hf : Vd f) : FcOk (KpF n f) ∧ (KpF n f).1 ≤ (KpF n f).2 := by
  match n, hn with
  | 0, _ => exact ⟨fc_one, Nat.le_refl _⟩
  | n + 1, hn =>
    rw [kp_succ]
    exact bm_all (P := fun p => FcOk p ∧ p.1 ≤ p.2) ⟨fc_nil, Nat.zero_le _⟩ 4 fun d _ hm => ⟨(kb_ok (by omega) hf hm).1, (kb_ok (by omega) hf hm).2.1⟩
theorem ltF_one {p : Fc} (h : p.1 ≤ p.2) : ltF (1, 1) p = false := by
  simp only [ltF, decide_eq_false_iff_not]; omega
theorem ltF_end (p : Fc) : ltF (1, 0) p = false := by
  simp only [ltF, decide_eq_false_iff_not]; omega

/-- The greatest mean of what n moves score; and behind a direction, with it. -/
def ScF : Nat → (Nat → Int) → Fc
  | 0, _ => (0, 1)
  | n + 1, f => (bmF f (fun d => plusF ((slideS f d 4).toNat, 1) (mnF (ScF n) (slideB f d))) 4).v
def scV (n : Nat) (f : Nat → Int) (d : Nat) : Fc := plusF ((slideS f d 4).toNat, 1) (mnF (ScF n) (slideB f d))
theorem scm_zero (f : Nat → Int) : ScF 0 f = (0, 1) := rfl
theorem scm_succ (n : Nat) (f : Nat → Int) : ScF (n + 1) f = (bmF f (scV n f) 4).v := rfl
theorem num_den {c : (Nat → Int) → Nat} {T : (Nat → Int) → Fc} {M : Nat} {f : Nat → Int} (hM : 0 < M) (hM2 : M ≤ 1125899906842624) (h : ∀ p, PlOk f p → T (plB f p) = (c (plB f p), 1) ∧ c (plB f p) ≤ M) : Den 1 M T f :=
  ⟨Nat.one_pos, hM, fun p hp => by rw [(h p hp).1]; exact fc_num _, fun p hp => by rw [(h p hp).1]; exact ⟨1, rfl⟩, fun p hp => by rw [(h p hp).1]; have := (h p hp).2; show c (plB f p) ≤ M * 1; omega, by omega⟩
theorem scm_one {f : Nat → Int} {d : Nat} (hf : Vd f) (hm : isMv f d = true) : scV 0 f d = ((slideS f d 4).toNat, 1) := by
  have hd : Den 1 1 (ScF 0) (slideB f d) := num_den (c := fun _ => 0) Nat.one_pos (by decide) (fun _ _ => ⟨rfl, by decide⟩)
  have hE := mv_room hf hm
  unfold scV
  rw [(mnF_rd hd hE).1]
  have hs : smL (ScF 0) (slideB f d) 1 (plA (slideB f d)) = 0 := by
    have := (mnF_rd hd hE).2
    unfold smL
    rw [List.sum_eq_zero_iff_forall_eq_nat.2]
    intro x hx
    obtain ⟨p, _, rfl⟩ := List.mem_map.1 hx
    show 0 * (1 / 1) * wtP p = 0
    omega
  rw [hs, rd_zero (by omega)]
  unfold plusF
  show rd ((slideS f d 4).toNat * 1 + 0 * 1) (1 * 1) = _
  rw [Nat.mul_one, Nat.zero_mul, Nat.add_zero, rd_one]
theorem ss_bd {f : Nat → Int} (hf : Vd f) (d : Nat) : (slideS f d 4).toNat ≤ 4194304 := by have := slideS_bd hf d 4 (Nat.le_refl _); omega
theorem scm_num {f : Nat → Int} (hf : Vd f) : (ScF 1 f).2 = 1 ∧ (ScF 1 f).1 ≤ 4194304 := by
  rw [scm_succ]
  exact bm_all (P := fun p => p.2 = 1 ∧ p.1 ≤ 4194304) ⟨rfl, Nat.zero_le _⟩ 4 fun d _ hm => by rw [scm_one hf hm]; exact ⟨rfl, ss_bd hf d⟩
theorem scm_dn {n : Nat} (hn : n ≤ 1) {f : Nat → Int} (hf : Vd f) : Den 1 4194304 (ScF n) f := by
  match n, hn with
  | 0, _ => exact num_den (c := fun _ => 0) (by decide) (by decide) (fun _ _ => ⟨rfl, by decide⟩)
  | 1, _ =>
    refine num_den (c := fun g => (ScF 1 g).1) (by decide) (by decide) (fun p hp => ?_)
    obtain ⟨a, b⟩ := scm_num (plB_vd hf hp)
    exact ⟨Prod.ext rfl a, b⟩
theorem scm_ok {n : Nat} (hn : n ≤ 1) {f : Nat → Int} {d : Nat} (hf : Vd f) (hm : isMv f d = true) :
    FcOk (mnF (ScF n) (slideB f d)) ∧ (mnF (ScF n) (slideB f d)).2 ≤ 160 ∧ (mnF (ScF n) (slideB f d)).1 ≤ 671088640 ∧ FcOk (scV n f d) ∧ (scV n f d).2 ≤ 160 ∧ (scV n f d).1 ≤ 1342177280 := by
  have hE := mv_room hf hm
  obtain ⟨a, b, c⟩ := mnF_ok (scm_dn hn (slideB_vd hf d)) hE
  have h1 := empN_le (slideB f d) 16
  have h2 := Nat.le_of_dvd (by omega) b
  have h3 := ss_bd hf d
  have hp := a.pos
  unfold scV
  generalize mnF (ScF n) (slideB f d) = m at *
  obtain ⟨x, y⟩ := m
  simp only at *
  refine ⟨a, by omega, by omega, ?_, ?_, ?_⟩
  · exact rd_ok (by show 0 < 1 * y; omega)
  · exact Nat.le_trans (rd_le2 _ _) (by show 1 * y ≤ 160; omega)
  · refine Nat.le_trans (rd_le1 _ _) ?_
    show (slideS f d 4).toNat * y + x * 1 ≤ _
    have := Nat.mul_le_mul h3 (show y ≤ 160 by omega)
    omega
end Go.Proofs.Ytblcojacmjbjcab.Plain
set_option linter.unusedSimpArgs false
namespace Go.Proofs.Ytblcojacmjbjcab.Plain
/-- The placement of the step k with a direction. -/
def psF (S : Nat → Int) (k : Nat) : Nat × Nat := ((emI S 16).getD (k / 2) 0, 1 + k % 2)
theorem flat_range (E : List Nat) : (E.flatMap fun j => [(j, 1), (j, 2)] : List (Nat × Nat)) = (List.range (E.length * 2)).map fun k => (E.getD (k / 2) 0, 1 + k % 2) := by
  refine list_snoc (fun E => (E.flatMap fun j => [(j, 1), (j, 2)] : List (Nat × Nat)) = (List.range (E.length * 2)).map fun k => (E.getD (k / 2) 0, 1 + k % 2)) rfl (fun E x ih => ?_) E
  rw [List.flatMap_append, ih, List.length_append, List.length_singleton, Nat.add_mul, Nat.one_mul, List.range_succ, List.range_succ, List.map_append, List.map_append, List.append_assoc]
  congr 1
  · refine List.map_congr_left fun k hk => ?_
    have hk := List.mem_range.1 hk
    rw [List.getD_eq_getElem?_getD, List.getD_eq_getElem?_getD, List.getElem?_append_left (by omega)]
  · have h1 : E.length * 2 / 2 = E.length := by omega
    have h2 : (E.length * 2 + 1) / 2 = E.length := by omega
    have h3 : E.length * 2 % 2 = 0 := by omega
    have h4 : (E.length * 2 + 1) % 2 = 1 := by omega
    simp [h1, h2, h3, h4]
theorem pl_range (S : Nat → Int) : plA S = (List.range (empN S 16 * 2)).map (psF S) := by
  unfold plA
  rw [flat_range, emI_len]
  rfl
theorem ps_ok {S : Nat → Int} {k : Nat} (hk : k < empN S 16 * 2) : PlOk S (psF S k) := plA_ok.1 (by rw [pl_range]; exact List.mem_map.2 ⟨k, List.mem_range.2 hk, rfl⟩)
theorem stps_at (d : Int) (E : Nat → Int) : ∀ (n k : Nat), k < n * 2 → (stps d E n)[k]? = some (cl 4 (stp d E (k / 2) ((1 + k % 2 : Nat) : Int)))
  | 0, k, h => by omega
  | n + 1, k, h => by
    have hl := stps_len d E n
    show (stps d E n ++ [cl 4 (stp d E n 1), cl 4 (stp d E n 2)])[k]? = _
    by_cases hk : k < n * 2
    · rw [List.getElem?_append_left (by omega)]; exact stps_at d E n k hk
    · rw [List.getElem?_append_right (by omega), hl]
      rcases (by omega : k = n * 2 ∨ k = n * 2 + 1) with rfl | rfl
      · rw [show n * 2 - n * 2 = 0 by omega, show n * 2 / 2 = n by omega, show n * 2 % 2 = 0 by omega]; rfl
      · rw [show n * 2 + 1 - n * 2 = 1 by omega, show (n * 2 + 1) / 2 = n by omega, show (n * 2 + 1) % 2 = 1 by omega]; rfl
theorem mv_same {f : Nat → Int} {d : Nat} (h : isMv f d = true) : sameB (slideB f d) f = false := by unfold isMv at h; simpa using h
theorem mv_len {f : Nat → Int} {d : Nat} (h : isMv f d = true) : (stepL f d).length = empN (slideB f d) 16 * 2 := by rw [step_move (mv_same h), stps_len]
theorem step_pl {f : Nat → Int} {d k : Nat} (hd : d < 4) (hm : isMv f d = true) (hk : k < (stepL f d).length) :
    ∃ l, (stepL f d)[k]? = some l ∧ doB f (fn l) = plB (slideB f d) (psF (slideB f d) k) ∧ fn l 3 = ((1 + k % 2 : Nat) : Int) ∧ PlOk (slideB f d) (psF (slideB f d) k) := by
  have hlen := mv_len hm
  have hk2 : k < empN (slideB f d) 16 * 2 := by omega
  have hpo := ps_ok (S := slideB f d) hk2
  refine ⟨_, by rw [step_move (mv_same hm)]; exact stps_at _ _ _ k hk2, ?_, rfl, hpo⟩
  obtain ⟨j, hx, hj, h0, h1, h2⟩ := emI_at (slideB f d) 16 (k / 2) (by omega)
  have hok : StepOk f (stp (d : Int) (empF (slideB f d)) (k / 2) ((1 + k % 2 : Nat) : Int)) := stp_ok hd (mv_same hm) (by omega) (by omega)
  have e1 : doB f (fn (cl 4 (stp (d : Int) (empF (slideB f d)) (k / 2) ((1 + k % 2 : Nat) : Int)))) = doB f (stp (d : Int) (empF (slideB f d)) (k / 2) ((1 + k % 2 : Nat) : Int)) := (do_congr fun i hi => by
    rcases (by omega : i = 0 ∨ i = 1 ∨ i = 2 ∨ i = 3) with rfl | rfl | rfl | rfl <;> rfl).1
  rw [e1, (do_yes hok).1]
  have e2 : placeAt (cellS (stp (d : Int) (empF (slideB f d)) (k / 2) ((1 + k % 2 : Nat) : Int))) = j := by
    have a1 : cellS (stp (d : Int) (empF (slideB f d)) (k / 2) ((1 + k % 2 : Nat) : Int)) 0 = ((j / 4 : Nat) : Int) := h1
    have a2 : cellS (stp (d : Int) (empF (slideB f d)) (k / 2) ((1 + k % 2 : Nat) : Int)) 1 = ((j % 4 : Nat) : Int) := h2
    unfold placeAt; rw [a1, a2]; omega
  have e3 : (stp (d : Int) (empF (slideB f d)) (k / 2) ((1 + k % 2 : Nat) : Int) 0).toNat = d := by show (d : Int).toNat = d; omega
  rw [e2, e3]
  unfold plB psF
  rw [List.getD_eq_getElem?_getD, hx]
  rfl
/-- A sum of n numbers. -/
def suN (a : Nat → Nat) : Nat → Nat
  | 0 => 0
  | k + 1 => suN a k + a k
theorem suN_range (a : Nat → Nat) : ∀ n, ((List.range n).map a).sum = suN a n
  | 0 => rfl
  | n + 1 => by rw [List.range_succ, List.map_append, List.sum_append, suN_range a n]; simp [suN]
theorem suN_congr {a b : Nat → Nat} : ∀ n, (∀ k, k < n → a k = b k) → suN a n = suN b n
  | 0, _ => rfl
  | n + 1, h => by unfold suN; rw [suN_congr n (fun k hk => h k (by omega)), h n (by omega)]
theorem suN_le {a : Nat → Nat} {m : Nat} : ∀ n, (∀ k, k < n → a k ≤ m) → suN a n ≤ n * m
  | 0, _ => by simp [suN]
  | n + 1, h => by have h1 := suN_le n (fun k hk => h k (by omega)); have h2 := h n (by omega); unfold suN; rw [Nat.add_mul]; omega
theorem suN_mono {a : Nat → Nat} {k n : Nat} (h : k ≤ n) : suN a k ≤ suN a n := by
  induction n with
  | zero => obtain rfl : k = 0 := by omega
            exact Nat.le_refl _
  | succ n ih =>
    rcases (by omega : k = n + 1 ∨ k ≤ n) with rfl | h
    · exact Nat.le_refl _
    · exact Nat.le_trans (ih h) (Nat.le_add_right _ _)
/-- The weight of a tile. -/
def wtI (t : Int) : Nat := if t = 1 then 9 else 1
theorem wtI_le (t : Int) : 1 ≤ wtI t ∧ wtI t ≤ 9 := by unfold wtI; split <;> omega
theorem wt_ps (S : Nat → Int) (k : Nat) : wtP (psF S k) = wtI ((1 + k % 2 : Nat) : Int) := by
  unfold wtP wtI psF
  rcases (by omega : k % 2 = 0 ∨ k % 2 = 1) with h | h <;> rw [h] <;> rfl
/-- All weights together are ten times the empty cells; the numbers with their weights are those of the placements. -/
theorem wt_sum (S : Nat → Int) : suN (fun k => wtP (psF S k)) (empN S 16 * 2) = 10 * empN S 16 := by
  rw [← wtL_all, pl_range]
  unfold wtL
  rw [List.map_map, ← suN_range]
  rfl
theorem sm_sum (T : (Nat → Int) → Fc) (S : Nat → Int) (D : Nat) : suN (fun k => tpN T S D (psF S k) * wtP (psF S k)) (empN S 16 * 2) = smL T S D (plA S) := by
  rw [pl_range]
  unfold smL
  rw [List.map_map, ← suN_range]
  rfl
/-- What the reference's mean of whole numbers is. -/
theorem mean_num {T : (Nat → Int) → Fc} {M : Nat} {S : Nat → Int} {u : Nat → Nat} {n : Nat} (h : Den 1 M T S) (hE : 0 < empN S 16) (hn : n = empN S 16 * 2) (hu : ∀ k, k < n → T (plB S (psF S k)) = (u k, 1)) :
    rd (suN (fun k => wtP (psF S k) * u k) n) (suN (fun k => wtP (psF S k)) n) = mnF T S := by
  subst hn
  rw [(mnF_rd h hE).1, wt_sum, ← sm_sum, Nat.one_mul]
  congr 1
  refine suN_congr _ fun k hk => ?_
  unfold tpN
  rw [hu k hk]
  show wtP (psF S k) * u k = u k * (1 / 1) * wtP (psF S k)
  rw [Nat.div_self Nat.one_pos, Nat.mul_one, Nat.mul_comm]
/-- The reference's sum of parts. -/
def ptF (s0 : Fc) (T : (Nat → Int) → Fc) (S : Nat → Int) (W : Nat) : Nat → Fc
  | 0 => s0
  | k + 1 => plusF (ptF s0 T S W k) (partF (T (plB S (psF S k))) (wtP (psF S k)) W)
theorem pt_rd {D M : Nat} {T : (Nat → Int) → Fc} {S : Nat → Int} {W c : Nat} (h : Den D M T S) (hW : 0 < W) {s0 : Fc} (h0 : s0 = rd c (D * W)) : ∀ k, k ≤ empN S 16 * 2 →
    ptF s0 T S W k = rd (c + suN (fun i => tpN T S D (psF S i) * wtP (psF S i)) k) (D * W)
  | 0, _ => h0
  | k + 1, hk => by
    have hp := ps_ok (S := S) (k := k) (by omega)
    have e := (h.at hp).1
    show plusF (ptF s0 T S W k) (partF (T (plB S (psF S k))) (wtP (psF S k)) W) = _
    rw [pt_rd h hW h0 k (by omega), e, part_rd h.D_pos hW, plus_rd (Nat.mul_pos h.D_pos hW)]
    show rd (c + suN _ k + _) _ = _
    rw [Nat.add_assoc]
    rfl
/-- Bounds for a part and for the sum before it. -/
theorem pt_bd {D M : Nat} {T : (Nat → Int) → Fc} {S : Nat → Int} {c : Nat} (h : Den D M T S) (hE : 0 < empN S 16) {s0 : Fc} (h0 : s0 = rd c (D * (10 * empN S 16))) {k : Nat} (hk : k ≤ empN S 16 * 2) :
    FcOk (ptF s0 T S (10 * empN S 16) k) ∧ (ptF s0 T S (10 * empN S 16) k).2 ≤ D * 160 ∧ (ptF s0 T S (10 * empN S 16) k).1 ≤ c + M * (D * 160) := by
  have hW : 0 < 10 * empN S 16 := by omega
  have hle := empN_le S 16
  rw [pt_rd h hW h0 k hk]
  refine ⟨rd_ok (Nat.mul_pos h.D_pos hW), Nat.le_trans (rd_le2 _ _) (Nat.mul_le_mul_left _ (by omega)), Nat.le_trans (rd_le1 _ _) (Nat.add_le_add_left ?_ _)⟩
  refine Nat.le_trans (suN_mono hk) ?_
  rw [sm_sum]
  refine Nat.le_trans (mnF_rd h hE).2 (Nat.mul_le_mul_left _ (Nat.mul_le_mul_left _ (by omega)))
theorem pt_part {D M : Nat} {T : (Nat → Int) → Fc} {S : Nat → Int} (h : Den D M T S) (hE : 0 < empN S 16) {k : Nat} (hk : k < empN S 16 * 2) :
    FcOk (T (plB S (psF S k))) ∧ (T (plB S (psF S k))).2 ≤ D ∧ (T (plB S (psF S k))).1 ≤ M * D ∧ FcOk (partF (T (plB S (psF S k))) (wtP (psF S k)) (10 * empN S 16)) ∧ (partF (T (plB S (psF S k))) (wtP (psF S k)) (10 * empN S 16)).2 ≤ D * 160 ∧ (partF (T (plB S (psF S k))) (wtP (psF S k)) (10 * empN S 16)).1 ≤ M * D * 9 := by
  have hp := ps_ok hk
  have hle := empN_le S 16
  obtain ⟨e1, e2⟩ := h.at hp
  have hw := wtP_le (psF S k)
  have a2 : (T (plB S (psF S k))).2 ≤ D := Nat.le_of_dvd h.D_pos (h.dvd _ hp)
  refine ⟨h.ok _ hp, a2, ?_, ?_, ?_, ?_⟩
  · rw [e1]; exact Nat.le_trans (rd_le1 _ _) e2
  · rw [e1, part_rd h.D_pos (by omega)]; exact rd_ok (Nat.mul_pos h.D_pos (by omega))
  · rw [e1, part_rd h.D_pos (by omega)]; exact Nat.le_trans (rd_le2 _ _) (Nat.mul_le_mul_left _ (by omega))
  · rw [e1, part_rd h.D_pos (by omega)]; exact Nat.le_trans (rd_le1 _ _) (Nat.mul_le_mul e2 hw.2)
theorem pt_mean {D M : Nat} {T : (Nat → Int) → Fc} {S : Nat → Int} (h : Den D M T S) (hE : 0 < empN S 16) : ptF (0, 1) T S (10 * empN S 16) (empN S 16 * 2) = mnF T S := by
  have hW : 0 < 10 * empN S 16 := by omega
  rw [pt_rd (c := 0) h hW (rd_zero (Nat.mul_pos h.D_pos hW)).symm _ (Nat.le_refl _), (mnF_rd h hE).1, Nat.zero_add, sm_sum]
theorem pt_score {D M : Nat} {T : (Nat → Int) → Fc} {S : Nat → Int} (h : Den D M T S) (hE : 0 < empN S 16) (c : Nat) : ptF (c, 1) T S (10 * empN S 16) (empN S 16 * 2) = plusF (c, 1) (mnF T S) := by
  have hW : 0 < 10 * empN S 16 := by omega
  have hQ := Nat.mul_pos h.D_pos hW
  have e : (c, 1) = rd (c * (D * (10 * empN S 16))) (D * (10 * empN S 16)) := by
    rw [← rd_one c]
    exact rd_congr Nat.one_pos hQ (by simp [Nat.mul_comm, Nat.mul_left_comm, Nat.mul_assoc])
  rw [pt_rd h hW e _ (Nat.le_refl _), (mnF_rd h hE).1, e, plus_rd hQ, sm_sum]
end Go.Proofs.Ytblcojacmjbjcab.Plain
set_option linter.unusedSimpArgs false
namespace Go.Proofs.Ytblcojacmjbjcab.Plain
/-- A board, a direction, and a slide that is a move. -/
def MvOk (f : Nat → Int) (d : Int) : Prop := SlideOk f d ∧ isMv f d.toNat = true
instance (f : Nat → Int) (d : Int) : Decidable (MvOk f d) := by unfold MvOk; infer_instance
theorem cnt_emp9 (f : Nat → Int) : ∀ k, cntF f k 0 = (empN f k : Int)
  | 0 => rfl
  | k + 1 => by
    have ih := cnt_emp9 f k
    show cntF f k 0 + (if f k = ((0 : Nat) : Int) then 1 else 0) = _
    unfold empN
    by_cases h : f k = 0
    · rw [if_pos (by rw [h]; rfl), if_pos h, ih]; omega
    · rw [if_neg (fun e => h (by rw [e]; rfl)), if_neg h, ih]; omega
def oneF (b : Bool) : Fc := (if b then 1 else 0, 1)
def oneN (b : Bool) : Nat := if b then 1 else 0
theorem oneN_le (b : Bool) : oneN b ≤ 1 := by cases b <;> decide
def uNext (g h : Nat → Int) : Nat := oneN (sameB h g)
def uOver (h : Nat → Int) : Nat := oneN (noMvB h)
def uRoom (h : Nat → Int) : Nat := (pairsR h + (empN h 16 : Int)).toNat
def uTile (c : Nat → Int) (t : Int) (h : Nat → Int) : Nat := oneN (decide (h (placeAt c) = t))
def scoB (h : Nat → Int) : Bool := decide (0 < slideS h 0 4 ∨ 0 < slideS h 1 4)
def uMerge (h : Nat → Int) : Nat := oneN (scoB h)
/-- A number that is told, as a fraction. -/
def numT (u : (Nat → Int) → Nat) (h : Nat → Int) : Fc := (u h, 1)
theorem pairs_bd (h : Nat → Int) : 0 ≤ pairsR h ∧ pairsR h ≤ 24 := by
  by_cases hv : Vd h
  · rw [pairsR_yes hv]; have := plines_bd h 4; omega
  · rw [pairsR_no hv]; omega
theorem uRoom_le (h : Nat → Int) : uRoom h ≤ 1000 := by
  unfold uRoom
  have := pairs_bd h
  have := empN_le h 16
  omega
theorem uRoom_int (h : Nat → Int) : ((uRoom h : Nat) : Int) = pairsR h + (empN h 16 : Int) := by
  unfold uRoom
  have := pairs_bd h
  omega
theorem den_num {u : (Nat → Int) → Nat} {M : Nat} {f : Nat → Int} (hM : 0 < M) (hM2 : M ≤ 1000000) (h : ∀ g, u g ≤ M) : Den 1 M (numT u) f :=
  num_den (c := u) hM (by omega) (fun p _ => ⟨rfl, h _⟩)
/-- What is told behind a move; nothing where there is none. -/
def mmF (T : (Nat → Int) → Fc) (f : Nat → Int) (d : Int) : Fc := if MvOk f d then mnF T (slideB f d.toNat) else (0, 0)
theorem mm_yes {T : (Nat → Int) → Fc} {f : Nat → Int} {d : Int} (h : MvOk f d) : mmF T f d = mnF T (slideB f d.toNat) := if_pos h
theorem mm_no {T : (Nat → Int) → Fc} {f : Nat → Int} {d : Int} (h : ¬ MvOk f d) : mmF T f d = (0, 0) := if_neg h
theorem same_comm (f g : Nat → Int) : sameB f g = sameB g f := by
  rw [Bool.eq_iff_iff, sameB_iff, sameB_iff]
  constructor <;> exact fun h j hj => (h j hj).symm
theorem sco_any {h : Nat → Int} (hV : Vd h) {d : Nat} (hd : d < 4) (hs : 0 < slideS h d 4) : scoB h = true := by
  unfold scoB
  rw [decide_eq_true_eq]
  have h1 := (score_mg hV d).1 hs
  rcases (by omega : d = 0 ∨ d = 1 ∨ d = 2 ∨ d = 3) with rfl | rfl | rfl | rfl
  · exact .inl hs
  · exact .inr hs
  · have e := merg_opp h (d := 0) (by omega)
    exact .inl ((score_mg hV 0).2 (by rw [← e]; exact h1))
  · have e := merg_opp h (d := 1) (by omega)
    exact .inr ((score_mg hV 1).2 (by rw [← e]; exact h1))
theorem sco_none {h : Nat → Int} (h0 : ¬ 0 < slideS h 0 4) (h1 : ¬ 0 < slideS h 1 4) : scoB h = false := by
  unfold scoB
  rw [decide_eq_false_iff_not]
  rintro (q | q)
  · exact h0 q
  · exact h1 q
end Go.Proofs.Ytblcojacmjbjcab.Plain
set_option linter.unusedSimpArgs false
namespace Go.Proofs.Ytblcojacmjbjcab.Plain
def bmS (V : Nat → Fc) (S : Bm) (x : Int) : Bm := if S.ok = false ∨ ltF S.v (V x.toNat) = true then ⟨x.toNat, V x.toNat, true⟩ else S
def bmL (V : Nat → Fc) (L : List Int) : Bm := L.foldl (bmS V) bm0
def mxS (V : Nat → Fc) (b : Fc) (x : Int) : Fc := if ltF b (V x.toNat) = true then V x.toNat else b
def mxL (V : Nat → Fc) (L : List Int) : Fc := L.foldl (mxS V) (0, 1)
theorem bmL_snoc (V : Nat → Fc) (L : List Int) (x : Int) : bmL V (L ++ [x]) = bmS V (bmL V L) x := by simp [bmL, List.foldl_append]
theorem mxL_snoc (V : Nat → Fc) (L : List Int) (x : Int) : mxL V (L ++ [x]) = mxS V (mxL V L) x := by simp [mxL, List.foldl_append]
theorem bmL_mov (f : Nat → Int) (V : Nat → Fc) : ∀ k, bmL V (movL f k) = bmF f V k
  | 0 => rfl
  | k + 1 => by
    have ih := bmL_mov f V k
    cases hm : isMv f k with
    | false => rw [mov_no hm, bm_still hm]; exact ih
    | true =>
      rw [mov_yes hm, bmL_snoc, ih]
      have e : ((k : Int)).toNat = k := by omega
      unfold bmS
      rw [e]
      by_cases h : (bmF f V k).ok = false ∨ ltF (bmF f V k).v (V k) = true
      · rw [if_pos h, bm_yes hm h]
      · rw [if_neg h, bm_no hm h]
theorem mxL_mov (f : Nat → Int) (V : Nat → Fc) : ∀ k, mxL V (movL f k) = mxF f V k
  | 0 => rfl
  | k + 1 => by
    have ih := mxL_mov f V k
    have e : ((k : Int)).toNat = k := by omega
    cases hm : isMv f k with
    | false => rw [mov_no hm]; simp [mxF, hm, ih]
    | true =>
      rw [mov_yes hm, mxL_snoc, ih]
      show mxS V (mxF f V k) (k : Int) = if isMv f k = true ∧ ltF (mxF f V k) (V k) = true then V k else mxF f V k
      unfold mxS
      rw [e]
      simp [hm]
theorem mov_is (f : Nat → Int) : ∀ k x, x ∈ movL f k → ∃ d : Nat, d < k ∧ x = (d : Int) ∧ isMv f d = true
  | 0, x, h => by cases h
  | k + 1, x, h => by
    cases hm : isMv f k with
    | false =>
      rw [mov_no hm] at h
      obtain ⟨d, a, b, c⟩ := mov_is f k x h
      exact ⟨d, by omega, b, c⟩
    | true =>
      rw [mov_yes hm] at h
      rcases List.mem_append.1 h with h | h
      · obtain ⟨d, a, b, c⟩ := mov_is f k x h
        exact ⟨d, by omega, b, c⟩
      · obtain rfl := List.mem_singleton.1 h
        exact ⟨k, by omega, rfl, hm⟩
theorem mov_at {f : Nat → Int} {i : Nat} (h : i < (movL f 4).length) : ∃ d : Nat, d < 4 ∧ (movL f 4)[i]? = some (d : Int) ∧ isMv f d = true ∧ (movL f 4).getD i 0 = (d : Int) ∧ (movL f 4).take (i + 1) = (movL f 4).take i ++ [(d : Int)] := by
  obtain ⟨d, hd, e, hm⟩ := mov_is f 4 _ (List.getElem_mem h)
  refine ⟨d, hd, by rw [List.getElem?_eq_getElem h, e], hm, ?_, ?_⟩
  · rw [List.getD_eq_getElem?_getD, List.getElem?_eq_getElem h, e]; rfl
  · rw [List.take_succ_eq_append_getElem h, e]
/-- The greatest so far is one of the values, or none. -/
theorem mxL_all {f : Nat → Int} {V : Nat → Fc} {P : Fc → Prop} (h0 : P (0, 1)) (h : ∀ d, d < 4 → isMv f d = true → P (V d)) (i : Nat) : P (mxL V ((movL f 4).take i)) := by
  have key : ∀ L : List Int, (∀ x, x ∈ L → ∃ d : Nat, d < 4 ∧ x = (d : Int) ∧ isMv f d = true) → P (mxL V L) := fun L => by
    refine list_snoc (fun L => (∀ x, x ∈ L → ∃ d : Nat, d < 4 ∧ x = (d : Int) ∧ isMv f d = true) → P (mxL V L)) (fun _ => h0) (fun L x ih hL => ?_) L
    rw [mxL_snoc]
    unfold mxS
    split
    · obtain ⟨d, hd, e, hm⟩ := hL x (by simp)
      have e2 : x.toNat = d := by omega
      rw [e2]; exact h d hd hm
    · exact ih fun y hy => hL y (by simp [hy])
  exact key _ fun x hx => mov_is f 4 x (List.mem_of_mem_take hx)
theorem mxL_end {f : Nat → Int} {V : Nat → Fc} (h : ∀ d, d < 4 → isMv f d = true → FcOk (V d)) : mxL V (movL f 4) = (bmF f V 4).v := by rw [mxL_mov, mx_bm 4 h]
/-- With one move left the chance is 1, or 0 where there is none. -/
theorem kp_first {f : Nat → Int} (hV : Vd f) : KpF 1 f = if (movL f 4).length = 0 then (0, 1) else (1, 1) := by
  rw [kp_succ]
  split
  · rename_i h
    have hok : (bmF f (kbV 0 f) 4).ok = false := by rw [bm_ok_iff]; simp [h]
    rw [← bmL_mov]
    rw [List.eq_nil_of_length_eq_zero h]; rfl
  · rename_i h
    have hok : (bmF f (kbV 0 f) 4).ok = true := by rw [bm_ok_iff]; simp [h]
    obtain ⟨_, _, hm, hv, _⟩ := (bm_first 4 fun d _ hm => (kb_ok (n := 0) (by omega) hV hm).1).2 hok
    rw [← hv, kp_one hV hm]
theorem mov_sorted (f : Nat → Int) : ∀ k, (movL f k).Pairwise (· < ·)
  | 0 => List.Pairwise.nil
  | k + 1 => by
    have ih := mov_sorted f k
    cases hm : isMv f k with
    | false => rw [mov_no hm]; exact ih
    | true =>
      rw [mov_yes hm, List.pairwise_append]
      refine ⟨ih, List.pairwise_singleton _ _, fun x hx y hy => ?_⟩
      obtain ⟨d, hd, e, _⟩ := mov_is f k x hx
      obtain rfl := List.mem_singleton.1 hy
      omega
theorem mov_has {f : Nat → Int} {d : Nat} : ∀ {k}, d < k → isMv f d = true → (d : Int) ∈ movL f k
  | 0, h, _ => by omega
  | k + 1, h, hm => by
    by_cases e : d = k
    · subst e; rw [mov_yes hm]; simp
    · have ih := mov_has (k := k) (by omega) hm
      cases hk : isMv f k with
      | false => rw [mov_no hk]; exact ih
      | true => rw [mov_yes hk]; exact List.mem_append.2 (.inl ih)
/-- The first move with the greatest value is the direction of the greatest one. -/
theorem well_at {f : Nat → Int} {V : Nat → Fc} {k d : Nat} (hV : ∀ d, d < 4 → isMv f d = true → FcOk (V d)) (hk : (movL f 4)[k]? = some (d : Int)) (hm : isMv f d = true) (hv : V d = (bmF f V 4).v)
    (hn : ∀ (j e : Nat), j < k → (movL f 4)[j]? = some (e : Int) → V e ≠ (bmF f V 4).v) : (bmF f V 4).d = d ∧ (bmF f V 4).ok = true := by
  have hkl := (List.getElem?_eq_some_iff.1 hk).1
  have hok : (bmF f V 4).ok = true := by
    rw [bm_ok_iff]; simp only [decide_eq_true_eq]; omega
  obtain ⟨_, hd4, hm', hv', hf⟩ := (bm_first 4 hV).2 hok
  refine ⟨?_, hok⟩
  rcases Nat.lt_trichotomy (bmF f V 4).d d with l | l | l
  · exfalso
    obtain ⟨j, hj⟩ := List.getElem?_of_mem (mov_has hd4 hm')
    have hjl := (List.getElem?_eq_some_iff.1 hj).1
    have hs := List.pairwise_iff_getElem.1 (mov_sorted f 4)
    have e1 := (List.getElem?_eq_some_iff.1 hj).2
    have e2 := (List.getElem?_eq_some_iff.1 hk).2
    rcases Nat.lt_trichotomy j k with q | q | q
    · exact hn j _ q hj hv'
    · subst q; rw [e1] at e2; omega
    · have := hs k j hkl hjl q
      rw [e1, e2] at this; omega
  · exact l
  · exfalso
    have := hf d l hm
    rw [hv, ltF_irrefl] at this
    cases this
theorem well_no {f : Nat → Int} {V : Nat → Fc} (hV : ∀ d, d < 4 → isMv f d = true → FcOk (V d))
    (hn : ∀ (j e : Nat), j < (movL f 4).length → (movL f 4)[j]? = some (e : Int) → V e ≠ (bmF f V 4).v) : (bmF f V 4).d = 0 ∧ (bmF f V 4).ok = false := by
  by_cases h : (movL f 4).length = 0
  · have e : bmF f V 4 = bm0 := by rw [← bmL_mov, List.eq_nil_of_length_eq_zero h]; rfl
    rw [e]; exact ⟨rfl, rfl⟩
  · exfalso
    have hok : (bmF f V 4).ok = true := by rw [bm_ok_iff]; simp [h]
    obtain ⟨_, hd4, hm', hv', _⟩ := (bm_first 4 hV).2 hok
    obtain ⟨j, hj⟩ := List.getElem?_of_mem (mov_has hd4 hm')
    exact hn j _ (List.getElem?_eq_some_iff.1 hj).1 hj hv'
end Go.Proofs.Ytblcojacmjbjcab.Plain
