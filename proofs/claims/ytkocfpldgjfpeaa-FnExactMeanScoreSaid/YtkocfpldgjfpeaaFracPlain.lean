/-
  Plain facts on fractions without a common divisor. No program stands in this text.
-/
import Derived.Test.YtkocfpldgjfpeaaPlainA
set_option linter.unusedSimpArgs false
namespace Go.Proofs.Ytkocfpldgjfpeaa.Plain
/-- A fraction: a numerator, and a denominator. -/
abbrev Fc := Nat × Nat
def rd (a b : Nat) : Fc := (a / Nat.gcd a b, b / Nat.gcd a b)
structure FcOk (p : Fc) : Prop where
  pos : 0 < p.2
  cop : Nat.gcd p.1 p.2 = 1
theorem rd_mul (a b : Nat) : (rd a b).1 * Nat.gcd a b = a ∧ (rd a b).2 * Nat.gcd a b = b :=
  ⟨Nat.div_mul_cancel (Nat.gcd_dvd_left a b), Nat.div_mul_cancel (Nat.gcd_dvd_right a b)⟩
theorem rd_gpos {a b : Nat} (hb : 0 < b) : 0 < Nat.gcd a b := Nat.gcd_pos_of_pos_right a hb
theorem rd_ok {a b : Nat} (hb : 0 < b) : FcOk (rd a b) := by
  have hg := rd_gpos (a := a) hb
  refine ⟨Nat.pos_of_ne_zero fun e => ?_, Nat.coprime_div_gcd_div_gcd hg⟩
  have := (rd_mul a b).2
  rw [e] at this; omega
theorem rd_le1 (a b : Nat) : (rd a b).1 ≤ a := Nat.div_le_self _ _
theorem rd_le2 (a b : Nat) : (rd a b).2 ≤ b := Nat.div_le_self _ _
theorem rd_dvd (a b : Nat) : (rd a b).2 ∣ b := ⟨Nat.gcd a b, (rd_mul a b).2.symm⟩
theorem rd_eqv {a b : Nat} : (rd a b).1 * b = a * (rd a b).2 := by
  obtain ⟨h1, h2⟩ := rd_mul a b
  generalize hp : (rd a b).1 = x at *
  generalize hq : (rd a b).2 = y at *
  generalize Nat.gcd a b = g at *
  rw [← h1, ← h2]
  simp [Nat.mul_comm, Nat.mul_left_comm, Nat.mul_assoc]
theorem fc_eq {p q : Fc} (hp : FcOk p) (hq : FcOk q) (h : p.1 * q.2 = q.1 * p.2) : p = q := by
  obtain ⟨a, b⟩ := p
  obtain ⟨c, d⟩ := q
  obtain ⟨hb, h1⟩ := hp
  obtain ⟨hd, h2⟩ := hq
  simp only at *
  have d1 : b ∣ d := by
    have : b ∣ d * a := ⟨c, by rw [Nat.mul_comm d a, h, Nat.mul_comm]⟩
    exact Nat.Coprime.dvd_of_dvd_mul_right (by show Nat.gcd b a = 1; rw [Nat.gcd_comm]; exact h1) this
  have d2 : d ∣ b := by
    have : d ∣ b * c := ⟨a, by rw [Nat.mul_comm b c, ← h, Nat.mul_comm]⟩
    exact Nat.Coprime.dvd_of_dvd_mul_right (by show Nat.gcd d c = 1; rw [Nat.gcd_comm]; exact h2) this
  have e := Nat.dvd_antisymm d1 d2
  subst e
  have := Nat.eq_of_mul_eq_mul_right hb h
  rw [this]
theorem rd_congr {a b c d : Nat} (hb : 0 < b) (hd : 0 < d) (h : a * d = c * b) : rd a b = rd c d := by
  refine fc_eq (rd_ok hb) (rd_ok hd) ?_
  have h1 : (rd a b).1 * b = a * (rd a b).2 := rd_eqv
  have h2 : (rd c d).1 * d = c * (rd c d).2 := rd_eqv
  generalize (rd a b).1 = x at *
  generalize (rd a b).2 = y at *
  generalize (rd c d).1 = z at *
  generalize (rd c d).2 = u at *
  have h3 : (x * u) * (b * d) = (z * y) * (b * d) := by
    calc (x * u) * (b * d) = (x * b) * (u * d) := by simp [Nat.mul_comm, Nat.mul_left_comm, Nat.mul_assoc]
      _ = (a * y) * (u * d) := by rw [h1]
      _ = (a * d) * (y * u) := by simp [Nat.mul_comm, Nat.mul_left_comm, Nat.mul_assoc]
      _ = (c * b) * (y * u) := by rw [h]
      _ = (c * u) * (y * b) := by simp [Nat.mul_comm, Nat.mul_left_comm, Nat.mul_assoc]
      _ = (z * d) * (y * b) := by rw [h2]
      _ = (z * y) * (b * d) := by simp [Nat.mul_comm, Nat.mul_left_comm, Nat.mul_assoc]
  exact Nat.eq_of_mul_eq_mul_right (Nat.mul_pos hb hd) h3
theorem rd_self {p : Fc} (hp : FcOk p) : rd p.1 p.2 = p := by
  unfold rd; rw [hp.cop]; simp
theorem rd_one (a : Nat) : rd a 1 = (a, 1) := by unfold rd; simp
theorem rd_zero {b : Nat} (hb : 0 < b) : rd 0 b = (0, 1) := by
  unfold rd; simp [Nat.div_self hb]
theorem rd_same {b : Nat} (hb : 0 < b) : rd b b = (1, 1) := by
  unfold rd; simp [Nat.div_self hb]
def plusF (p q : Fc) : Fc := rd (p.1 * q.2 + q.1 * p.2) (p.2 * q.2)
def timesF (p : Fc) (n : Nat) : Fc := rd (p.1 * n) p.2
def divF (p : Fc) (n : Nat) : Fc := rd p.1 (p.2 * n)
def partF (p : Fc) (w all : Nat) : Fc := rd (p.1 * w) (p.2 * all)
def ltF (p q : Fc) : Bool := decide (p.1 * q.2 < q.1 * p.2)
/-- Sums, multiples and parts of fractions of one denominator. -/
theorem plus_rd {a b D : Nat} (hD : 0 < D) : plusF (rd a D) (rd b D) = rd (a + b) D := by
  have h1 := rd_ok (a := a) hD
  have h2 := rd_ok (a := b) hD
  have e1 : (rd a D).1 * D = a * (rd a D).2 := rd_eqv
  have e2 : (rd b D).1 * D = b * (rd b D).2 := rd_eqv
  unfold plusF
  refine rd_congr (Nat.mul_pos h1.pos h2.pos) hD ?_
  generalize (rd a D).1 = x at *
  generalize (rd a D).2 = y at *
  generalize (rd b D).1 = z at *
  generalize (rd b D).2 = u at *
  calc (x * u + z * y) * D = (x * D) * u + (z * D) * y := by rw [Nat.add_mul]; congr 1 <;> simp [Nat.mul_comm, Nat.mul_left_comm, Nat.mul_assoc]
    _ = (a * y) * u + (b * u) * y := by rw [e1, e2]
    _ = (a + b) * (y * u) := by rw [Nat.add_mul]; congr 1 <;> simp [Nat.mul_comm, Nat.mul_left_comm, Nat.mul_assoc]
theorem times_rd {a D n : Nat} (hD : 0 < D) : timesF (rd a D) n = rd (a * n) D := by
  have h1 := rd_ok (a := a) hD
  have e1 : (rd a D).1 * D = a * (rd a D).2 := rd_eqv
  unfold timesF
  refine rd_congr h1.pos hD ?_
  calc (rd a D).1 * n * D = ((rd a D).1 * D) * n := by simp [Nat.mul_comm, Nat.mul_left_comm, Nat.mul_assoc]
    _ = (a * (rd a D).2) * n := by rw [e1]
    _ = a * n * (rd a D).2 := by simp [Nat.mul_comm, Nat.mul_left_comm, Nat.mul_assoc]
theorem part_rd {a D w all : Nat} (hD : 0 < D) (ha : 0 < all) : partF (rd a D) w all = rd (a * w) (D * all) := by
  have h1 := rd_ok (a := a) hD
  have e1 : (rd a D).1 * D = a * (rd a D).2 := rd_eqv
  unfold partF
  refine rd_congr (Nat.mul_pos h1.pos ha) (Nat.mul_pos hD ha) ?_
  calc (rd a D).1 * w * (D * all) = ((rd a D).1 * D) * (w * all) := by simp [Nat.mul_comm, Nat.mul_left_comm, Nat.mul_assoc]
    _ = (a * (rd a D).2) * (w * all) := by rw [e1]
    _ = a * w * ((rd a D).2 * all) := by simp [Nat.mul_comm, Nat.mul_left_comm, Nat.mul_assoc]
theorem div_rd {a D all : Nat} (hD : 0 < D) (ha : 0 < all) : divF (rd a D) all = rd a (D * all) := by
  have h := part_rd (a := a) (w := 1) hD ha
  unfold partF at h
  unfold divF
  rw [Nat.mul_one, Nat.mul_one] at h
  exact h
theorem fc_rd {p : Fc} {D : Nat} (hp : FcOk p) (hD : 0 < D) (h : p.2 ∣ D) : p = rd (p.1 * (D / p.2)) D := by
  refine fc_eq hp (rd_ok hD) ?_
  obtain ⟨k, rfl⟩ := h
  have hk : 0 < k := Nat.pos_of_ne_zero fun e => by subst e; simp at hD
  rw [Nat.mul_div_cancel_left k hp.pos]
  have e1 : (rd (p.1 * k) (p.2 * k)).1 * (p.2 * k) = (p.1 * k) * (rd (p.1 * k) (p.2 * k)).2 := rd_eqv
  generalize (rd (p.1 * k) (p.2 * k)).1 = x at *
  generalize (rd (p.1 * k) (p.2 * k)).2 = y at *
  have : (p.1 * y) * k = (x * p.2) * k := by
    rw [show p.1 * y * k = p.1 * k * y by simp [Nat.mul_comm, Nat.mul_left_comm, Nat.mul_assoc], ← e1, Nat.mul_assoc]
  exact Nat.eq_of_mul_eq_mul_right hk this
theorem ltF_irrefl (p : Fc) : ltF p p = false := by simp [ltF]
theorem ltF_rd {a b D : Nat} (hD : 0 < D) : ltF (rd a D) (rd b D) = decide (a < b) := by
  have h1 := rd_ok (a := a) hD
  have h2 := rd_ok (a := b) hD
  have e1 : (rd a D).1 * D = a * (rd a D).2 := rd_eqv
  have e2 : (rd b D).1 * D = b * (rd b D).2 := rd_eqv
  have h1p := h1.pos
  have h2p := h2.pos
  unfold ltF
  generalize (rd a D).1 = x at *
  generalize (rd a D).2 = y at *
  generalize (rd b D).1 = z at *
  generalize (rd b D).2 = u at *
  have e3 : (x * u) * D = a * (y * u) := by rw [show x * u * D = x * D * u by simp [Nat.mul_comm, Nat.mul_left_comm, Nat.mul_assoc], e1, Nat.mul_assoc]
  have e4 : (z * y) * D = b * (y * u) := by rw [show z * y * D = z * D * y by simp [Nat.mul_comm, Nat.mul_left_comm, Nat.mul_assoc], e2, Nat.mul_assoc, Nat.mul_comm u y]
  have hyu : 0 < y * u := Nat.mul_pos h1p h2p
  rw [decide_eq_decide]
  constructor
  · intro h
    have := Nat.mul_lt_mul_of_pos_right h hD
    rw [e3, e4] at this
    exact Nat.lt_of_mul_lt_mul_right this
  · intro h
    have := Nat.mul_lt_mul_of_pos_right h hyu
    rw [← e3, ← e4] at this
    exact Nat.lt_of_mul_lt_mul_right this
/-- Euclid's steps. -/
theorem gcd_step (d r : Nat) : Nat.gcd r (d % r) = Nat.gcd d r := by
  rw [Nat.gcd_comm d r, Nat.gcd_rec r d, Nat.gcd_comm]
theorem gcd_end (d : Nat) : Nat.gcd d 0 = d := Nat.gcd_zero_right d
/-- The two numbers of a fraction, as they lie in memory. -/
def fcF (p : Fc) : Nat → Int := fun i => if i = 0 then (p.1 : Int) else (p.2 : Int)
theorem fcF0 (p : Fc) : fcF p 0 = (p.1 : Int) := rfl
theorem fcF1 (p : Fc) : fcF p 1 = (p.2 : Int) := rfl
end Go.Proofs.Ytkocfpldgjfpeaa.Plain
