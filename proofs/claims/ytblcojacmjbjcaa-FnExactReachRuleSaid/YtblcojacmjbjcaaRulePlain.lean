/-
  Plain facts on the rules by which tiles merge: what two tiles become, what a tile is worth, and what a board becomes when it slides by a rule. No program stands in this text.
-/
import Derived.Test.YtblcojacmjbjcaaPlainA
namespace Go.Proofs.Ytblcojacmjbjcaa.Plain
def RlOk (r : Int) : Prop := 1 ≤ r ∧ r ≤ 4
instance (r : Int) : Decidable (RlOk r) := by unfold RlOk; infer_instance
def TlOk (t : Int) : Prop := 1 ≤ t ∧ t ≤ 17
instance (t : Int) : Decidable (TlOk t) := by unfold TlOk; infer_instance
def lowI (s t : Int) : Int := if s ≤ t then s else t
def hghI (s t : Int) : Int := if s ≤ t then t else s
theorem lowI_bd {s t : Int} (h : TlOk s) (k : TlOk t) : TlOk (lowI s t) := by unfold lowI; split <;> assumption
theorem hghI_bd {s t : Int} (h : TlOk s) (k : TlOk t) : TlOk (hghI s t) := by unfold hghI; split <;> assumption
theorem low_hgh (s t : Int) : lowI s t ≤ hghI s t := by unfold lowI hghI; split <;> omega
/-- What the less one and the greater one of two tiles become by a rule; 0 if they do not merge. -/
def mgRaw (r lo hi : Int) : Int :=
  if r = 1 then (if lo = hi then hi + 1 else 0) else if r = 2 then (if hi = lo + 1 then hi + 1 else 0)
  else if r = 3 then (if (lo = 1 ∧ hi = 2) ∨ (lo = hi ∧ 3 ≤ lo) then hi + 1 else 0) else if r = 4 then lo + hi else 0
theorem mgRaw_bd {r lo hi : Int} (h : TlOk lo) (k : TlOk hi) : 0 ≤ mgRaw r lo hi ∧ mgRaw r lo hi ≤ 34 := by
  unfold TlOk at h k; unfold mgRaw
  split <;> (try split) <;> (try split) <;> (try split) <;> omega
def mgF (r s t : Int) : Int := if 17 < mgRaw r (lowI s t) (hghI s t) then 0 else mgRaw r (lowI s t) (hghI s t)
theorem mgF_bd {r s t : Int} (h : TlOk s) (k : TlOk t) : 0 ≤ mgF r s t ∧ mgF r s t ≤ 17 := by
  have := mgRaw_bd (r := r) (lowI_bd h k) (hghI_bd h k)
  unfold mgF; split <;> omega
theorem lowI_comm (s t : Int) : lowI s t = lowI t s := by unfold lowI; split <;> split <;> omega
theorem hghI_comm (s t : Int) : hghI s t = hghI t s := by unfold hghI; split <;> split <;> omega
theorem mgF_comm (r s t : Int) : mgF r s t = mgF r t s := by unfold mgF; rw [lowI_comm, hghI_comm]
/-- What MergeOf returns. -/
def MgOk (r s t : Int) : Prop := RlOk r ∧ TlOk s ∧ TlOk t
instance (r s t : Int) : Decidable (MgOk r s t) := by unfold MgOk; infer_instance
def mgR (r s t : Int) : Int := if MgOk r s t then mgF r s t else 0
def mgO (r s t : Int) : Bool := if MgOk r s t then decide (0 < mgF r s t) else false
theorem mg_yes {r s t : Int} (h : MgOk r s t) : mgR r s t = mgF r s t ∧ mgO r s t = decide (0 < mgF r s t) := by simp [mgR, mgO, h]
theorem mg_no {r s t : Int} (h : ¬ MgOk r s t) : mgR r s t = 0 ∧ mgO r s t = false := by simp [mgR, mgO, h]
/-- What a tile is worth by the rule RuleNext: the number, and the one behind it, after n steps. -/
def fibP : Nat → Int × Int
  | 0 => (1, 2)
  | n + 1 => ((fibP n).2, (fibP n).1 + (fibP n).2)
theorem fibP_bd : ∀ n, n ≤ 17 → 0 ≤ (fibP n).1 ∧ (fibP n).1 ≤ 10000 ∧ 0 ≤ (fibP n).2 ∧ (fibP n).2 ≤ 10000 := by decide
def woF (r t : Int) : Int :=
  if r = 1 then worth t else if r = 2 then (fibP (t.toNat - 1)).1 else if r = 3 then (if t < 3 then t else 3 * 2 ^ (t - 3).toNat) else t
theorem woF_all : ∀ r : Fin 5, ∀ t : Fin 18, 1 ≤ t.val → 0 ≤ woF (r.val : Int) (t.val : Int) ∧ woF (r.val : Int) (t.val : Int) ≤ 262144 := by decide
theorem woF_bd {r t : Int} (hr : RlOk r) (ht : TlOk t) : 0 ≤ woF r t ∧ woF r t ≤ 262144 := by
  unfold RlOk at hr; unfold TlOk at ht
  obtain ⟨n, rfl⟩ := Int.eq_ofNat_of_zero_le (show 0 ≤ r by omega)
  obtain ⟨m, rfl⟩ := Int.eq_ofNat_of_zero_le (show 0 ≤ t by omega)
  exact woF_all ⟨n, by omega⟩ ⟨m, by omega⟩ (by simp; omega)
def WoOk (r t : Int) : Prop := RlOk r ∧ TlOk t
instance (r t : Int) : Decidable (WoOk r t) := by unfold WoOk; infer_instance
def woR (r t : Int) : Int := if WoOk r t then woF r t else 0
def woO (r t : Int) : Bool := decide (WoOk r t)
theorem wo_yes {r t : Int} (h : WoOk r t) : woR r t = woF r t ∧ woO r t = true := by simp [woR, woO, h]
theorem wo_no {r t : Int} (h : ¬ WoOk r t) : woR r t = 0 ∧ woO r t = false := by simp [woR, woO, h]

/-- What a line is while it slides by a rule: the tiles that have come out, how many, the mergers, and whether the next one may merge. -/
structure RSl where
  row : Nat → Int
  n : Nat
  mg : Int
  op : Bool
def rsl0 : RSl := ⟨fun _ => 0, 0, 0, false⟩
def rslStep (m : Int → Int → Int) (s : RSl) (t : Int) : RSl :=
  if t = 0 then s else if s.op = true ∧ 0 < m (s.row (s.n - 1)) t then ⟨upd s.row (s.n - 1) (m (s.row (s.n - 1)) t), s.n, s.mg + 1, false⟩
  else ⟨upd s.row s.n t, s.n + 1, s.mg, true⟩
def rsl (m : Int → Int → Int) (f : Nat → Int) : Nat → RSl
  | 0 => rsl0
  | k + 1 => rslStep m (rsl m f k) (f k)
/-- A merger of tiles has a tile, or none. -/
def MgFn (m : Int → Int → Int) : Prop := ∀ s t, TlOk s → TlOk t → 0 ≤ m s t ∧ m s t ≤ 17
theorem mgFn (r : Int) : MgFn (mgF r) := fun _ _ h k => mgF_bd h k
structure RslOk (s : RSl) (k : Nat) : Prop where
  n_le : s.n ≤ k
  last : s.op = true → 1 ≤ s.n
  mg0 : 0 ≤ s.mg
  mg1 : s.mg ≤ k
  row0 : ∀ j, 0 ≤ s.row j
  row1 : ∀ j, s.row j ≤ 17
  full : ∀ j, j < s.n → s.row j ≠ 0
  rest : ∀ j, s.n ≤ j → s.row j = 0
theorem RslOk.tile {s : RSl} {k : Nat} (h : RslOk s k) (ho : s.op = true) : TlOk (s.row (s.n - 1)) := by
  have h1 := h.last ho
  have h2 := h.full (s.n - 1) (by omega)
  have h3 := h.row0 (s.n - 1)
  have h4 := h.row1 (s.n - 1)
  unfold TlOk; omega
theorem rslOk0 : RslOk rsl0 0 := by constructor <;> simp [rsl0]
theorem rslOk_step {m : Int → Int → Int} (hm : MgFn m) {s : RSl} {k : Nat} {t : Int} (h : RslOk s k) (h0 : 0 ≤ t) (h1 : t ≤ 17) : RslOk (rslStep m s t) (k + 1) := by
  have hT := h.tile
  obtain ⟨a1, a4, a7, a8, a9, a10, a11, a12⟩ := h
  unfold rslStep
  split
  · exact ⟨by omega, a4, a7, by omega, a9, a10, a11, a12⟩
  · split
    · rename_i ht hq
      obtain ⟨b1, b2⟩ := hm _ _ (hT hq.1) (show TlOk t by unfold TlOk; omega)
      have b3 := hq.2
      have b4 := a4 hq.1
      generalize m (s.row (s.n - 1)) t = v at *
      constructor <;> simp only [] <;> (try omega)
      · intro j; by_cases e : j = s.n - 1 <;> simp [upd, e] <;> first | omega | exact a9 j
      · intro j; by_cases e : j = s.n - 1 <;> simp [upd, e] <;> first | omega | exact a10 j
      · intro j hj; by_cases e : j = s.n - 1 <;> simp [upd, e] <;> first | omega | exact a11 j hj
      · intro j hj; rw [upd_other _ _ (by omega)]; exact a12 j hj
    · constructor <;> simp only [] <;> (try omega)
      · intro j; by_cases e : j = s.n <;> simp [upd, e] <;> first | omega | exact a9 j
      · intro j; by_cases e : j = s.n <;> simp [upd, e] <;> first | omega | exact a10 j
      · intro j hj; by_cases e : j = s.n <;> simp [upd, e] <;> first | omega | exact a11 j (by omega)
      · intro j hj; rw [upd_other _ _ (by omega)]; exact a12 j (by omega)
theorem rsl_ok {m : Int → Int → Int} (hm : MgFn m) {f : Nat → Int} (hf : VdRow f) : ∀ k, k ≤ 4 → RslOk (rsl m f k) k
  | 0, _ => rslOk0
  | k + 1, h => rslOk_step hm (rsl_ok hm hf k (by omega)) (hf k (by omega)).1 (hf k (by omega)).2
theorem rsl_congr (m : Int → Int → Int) {f g : Nat → Int} : ∀ k, (∀ i, i < k → f i = g i) → rsl m f k = rsl m g k
  | 0, _ => rfl
  | k + 1, h => by
    show rslStep m (rsl m f k) (f k) = rslStep m (rsl m g k) (g k)
    rw [rsl_congr m k (fun i hi => h i (by omega)), h k (by omega)]

/-- The board behind a slide by a rule, and the mergers of its first lines. -/
def rB (m : Int → Int → Int) (f : Nat → Int) (d : Nat) : Nat → Int := fun j => (rsl m (lineF f d (lineOf d j)) 4).row (placeOf d j)
def rM (m : Int → Int → Int) (f : Nat → Int) (d : Nat) : Nat → Int
  | 0 => 0
  | i + 1 => rM m f d i + (rsl m (lineF f d i) 4).mg
theorem rB_vd {m : Int → Int → Int} (hm : MgFn m) {f : Nat → Int} (hf : Vd f) (d : Nat) : Vd (rB m f d) := fun _ hj =>
  ⟨(rsl_ok hm (lineF_vd hf d (lineOf_lt hj)) 4 (Nat.le_refl _)).row0 _, (rsl_ok hm (lineF_vd hf d (lineOf_lt hj)) 4 (Nat.le_refl _)).row1 _⟩
theorem rM_bd {m : Int → Int → Int} (hm : MgFn m) {f : Nat → Int} (hf : Vd f) (d : Nat) : ∀ i, i ≤ 4 → 0 ≤ rM m f d i ∧ rM m f d i ≤ i * 4
  | 0, _ => by simp [rM]
  | i + 1, h => by
    have h1 := rM_bd hm hf d i (by omega)
    have h2 := rsl_ok hm (lineF_vd hf d (i := i) (by omega)) 4 (Nat.le_refl _)
    have h3 := h2.mg0
    have h4 := h2.mg1
    unfold rM; omega
theorem lineF_congr {f g : Nat → Int} (h : ∀ j, j < 16 → f j = g j) (d : Nat) {i : Nat} (hi : i < 4) : ∀ k, k < 4 → lineF f d i k = lineF g d i k := fun _ hk => h _ (pos_lt hi hk)
theorem rB_congr (m : Int → Int → Int) {f g : Nat → Int} (h : ∀ j, j < 16 → f j = g j) (d : Nat) {j : Nat} (hj : j < 16) : rB m f d j = rB m g d j := by
  unfold rB; rw [rsl_congr m 4 (lineF_congr h d (lineOf_lt hj))]
/-- A board of which r lines, seen from the side d, have slid by the rule. -/
def rSeen (m : Int → Int → Int) (f : Nat → Int) (d r : Nat) : Nat → Int := fun j => if j < r * 4 then (rsl m (lineF f d (j / 4)) 4).row (j % 4) else viewF f d j
theorem rSeen_zero (m : Int → Int → Int) (f : Nat → Int) (d j : Nat) : rSeen m f d 0 j = viewF f d j := by simp [rSeen]
theorem rSeen_slid (m : Int → Int → Int) (f : Nat → Int) (d r : Nat) : rsl m (fun c => viewF f d (r * 4 + c)) 4 = rsl m (lineF f d r) 4 := rsl_congr m 4 fun _ hc => viewF_line f d r hc
theorem rSeen_back (m : Int → Int → Int) (f : Nat → Int) (d : Nat) : ∀ j, j < 16 → backF (rSeen m f d 4) d j = rB m f d j := by
  intro j hj
  have hl := lineOf_lt (d := d) hj
  have hp := placeOf_lt (d := d) hj
  unfold backF rSeen rB
  rw [if_pos (by omega), show (lineOf d j * 4 + placeOf d j) / 4 = lineOf d j by omega, show (lineOf d j * 4 + placeOf d j) % 4 = placeOf d j by omega]
/-- A board of which i lines have been written behind a slide by the rule. -/
def rOut (m : Int → Int → Int) (f : Nat → Int) (d i : Nat) : Nat → Int := fun j => if lineOf d j < i then rB m f d j else f j
theorem rOut_zero (m : Int → Int → Int) (f : Nat → Int) (d j : Nat) : rOut m f d 0 j = f j := by simp [rOut]
theorem rOut_all (m : Int → Int → Int) (f : Nat → Int) (d : Nat) {j : Nat} (hj : j < 16) : rOut m f d 4 j = rB m f d j := by
  unfold rOut; rw [if_pos (lineOf_lt hj)]

/-- The mergers are the cells that get empty. -/
theorem rsl_zero (m : Int → Int → Int) {f : Nat → Int} : ∀ k, ((rsl m f k).n : Int) + (rsl m f k).mg + empN f k = k
  | 0 => by simp [rsl, rsl0, empN]
  | k + 1 => by
    have h := rsl_zero m (f := f) k
    rw [empN_step]
    show ((rslStep m (rsl m f k) (f k)).n : Int) + (rslStep m (rsl m f k) (f k)).mg + _ = _
    unfold rslStep
    by_cases h0 : f k = 0
    · rw [if_pos h0, if_pos h0]; push_cast; omega
    · rw [if_neg h0, if_neg h0]
      split <;> simp only [] <;> push_cast <;> omega
theorem rslRow_zero {s : RSl} {n : Nat} (h : RslOk s n) : ∀ k, (empN s.row k : Int) = if k ≤ s.n then 0 else (k : Int) - s.n
  | 0 => by simp [empN]
  | k + 1 => by
    have h1 := rslRow_zero h k
    rw [empN_step]
    by_cases e : k < s.n
    · rw [if_neg (h.full k e), if_pos (by omega)]; rw [if_pos (by omega)] at h1; omega
    · rw [if_pos (h.rest k (by omega)), if_neg (by omega)]
      push_cast
      rw [h1]; split <;> omega
theorem rLine_zero {m : Int → Int → Int} (hm : MgFn m) {f : Nat → Int} (hf : VdRow f) : (empN (rsl m f 4).row 4 : Int) = empN f 4 + (rsl m f 4).mg := by
  have h := rsl_ok hm hf 4 (Nat.le_refl _)
  have h1 := rsl_zero m (f := f) 4
  have h2 := rslRow_zero h 4
  have h3 := h.n_le
  rw [h2]; split <;> omega
theorem rB_line (m : Int → Int → Int) (f : Nat → Int) {d i : Nat} (hi : i < 4) : empN (lineF (rB m f d) d i) 4 = empN (rsl m (lineF f d i) 4).row 4 :=
  empN_congr fun k hk => by show rB m f d (pos d i k) = _; unfold rB; rw [lineOf_pos hi hk, placeOf_pos hi hk]
theorem emp_rB {m : Int → Int → Int} (hm : MgFn m) {f : Nat → Int} (hf : Vd f) {d : Nat} (hd : d < 4) : (empN (rB m f d) 16 : Int) = empN f 16 + rM m f d 4 := by
  rw [emp_lines (rB m f d) hd, emp_lines f hd, rB_line m f (by omega : 0 < 4), rB_line m f (by omega : 1 < 4), rB_line m f (by omega : 2 < 4), rB_line m f (by omega : 3 < 4)]
  have q0 := rLine_zero hm (lineF_vd hf d (by omega : 0 < 4))
  have q1 := rLine_zero hm (lineF_vd hf d (by omega : 1 < 4))
  have q2 := rLine_zero hm (lineF_vd hf d (by omega : 2 < 4))
  have q3 := rLine_zero hm (lineF_vd hf d (by omega : 3 < 4))
  simp only [rM]
  push_cast
  omega

/-- The slide by the rule is a move. -/
def rMv (m : Int → Int → Int) (f : Nat → Int) (d : Nat) : Bool := !sameB (rB m f d) f
def rML (m : Int → Int → Int) (f : Nat → Int) : Nat → List Int
  | 0 => []
  | k + 1 => if rMv m f k then rML m f k ++ [(k : Int)] else rML m f k
theorem rML_yes {m : Int → Int → Int} {f : Nat → Int} {k : Nat} (h : rMv m f k = true) : rML m f (k + 1) = rML m f k ++ [(k : Int)] := by simp [rML, h]
theorem rML_no {m : Int → Int → Int} {f : Nat → Int} {k : Nat} (h : rMv m f k = false) : rML m f (k + 1) = rML m f k := by simp [rML, h]
theorem rML_le (m : Int → Int → Int) (f : Nat → Int) : ∀ k, (rML m f k).length ≤ k
  | 0 => by simp [rML]
  | k + 1 => by have := rML_le m f k; unfold rML; split <;> simp <;> omega
/-- What the functions of a Board and a rule return. -/
def RbOk (f : Nat → Int) (r : Int) : Prop := Vd f ∧ RlOk r
instance (f : Nat → Int) (r : Int) : Decidable (RbOk f r) := by unfold RbOk; infer_instance
def rbO (f : Nat → Int) (r : Int) : Bool := decide (RbOk f r)
def rMR (f : Nat → Int) (r : Int) : List Int := if RbOk f r then rML (mgF r) f 4 else []
def rOR (f : Nat → Int) (r : Int) : Bool := if RbOk f r then decide ((rML (mgF r) f 4).length = 0) else false
theorem rm_yes {f : Nat → Int} {r : Int} (h : RbOk f r) : rMR f r = rML (mgF r) f 4 ∧ rbO f r = true ∧ rOR f r = decide ((rML (mgF r) f 4).length = 0) := by simp [rMR, rbO, rOR, h]
theorem rm_no {f : Nat → Int} {r : Int} (h : ¬ RbOk f r) : rMR f r = [] ∧ rbO f r = false ∧ rOR f r = false := by simp [rMR, rbO, rOR, h]
/-- What SlideBy returns. -/
def RsOk (f : Nat → Int) (d r : Int) : Prop := Vd f ∧ (0 ≤ d ∧ d ≤ 3) ∧ RlOk r
instance (f : Nat → Int) (d r : Int) : Decidable (RsOk f d r) := by unfold RsOk; infer_instance
def r10O (f : Nat → Int) (d r : Int) : Bool := decide (RsOk f d r)
def r10B (f : Nat → Int) (d r : Int) : Nat → Int := if RsOk f d r then rB (mgF r) f d.toNat else fun _ => 0
def r10M (f : Nat → Int) (d r : Int) : Int := if RsOk f d r then rM (mgF r) f d.toNat 4 else 0
theorem r10_yes {f : Nat → Int} {d r : Int} (h : RsOk f d r) : r10O f d r = true ∧ r10B f d r = rB (mgF r) f d.toNat ∧ r10M f d r = rM (mgF r) f d.toNat 4 := by simp [r10O, r10B, r10M, h]
theorem r10_no {f : Nat → Int} {d r : Int} (h : ¬ RsOk f d r) : r10O f d r = false ∧ r10B f d r = (fun _ => 0) ∧ r10M f d r = 0 := by simp [r10O, r10B, r10M, h]

/-- The sum by a rule, told cell by cell. -/
def woZ (r t : Int) : Int := if 0 < t then woF r t else 0
theorem woZ_bd {r t : Int} (hr : RlOk r) (h0 : 0 ≤ t) (h1 : t ≤ 17) : 0 ≤ woZ r t ∧ woZ r t ≤ 262144 := by
  unfold woZ; split
  · exact woF_bd hr (by unfold TlOk; omega)
  · omega
def rSum (r : Int) (f : Nat → Int) : Nat → Int
  | 0 => 0
  | k + 1 => rSum r f k + woZ r (f k)
theorem rSum_bd {r : Int} (hr : RlOk r) {f : Nat → Int} (hf : Vd f) : ∀ k, k ≤ 16 → 0 ≤ rSum r f k ∧ rSum r f k ≤ k * 262144
  | 0, _ => by simp [rSum]
  | k + 1, h => by
    have h1 := rSum_bd hr hf k (by omega)
    have h2 := hf k (by omega)
    have h3 := woZ_bd hr h2.1 h2.2
    unfold rSum; omega
def rSumT (r : Int) (f : Nat → Int) (k : Nat) : Nat → Int
  | 0 => 0
  | T + 1 => rSumT r f k T + cntF f k (T + 1) * woF r ((T + 1 : Nat) : Int)
theorem rSumT_zero (r : Int) (f : Nat → Int) : ∀ T, rSumT r f 0 T = 0
  | 0 => rfl
  | T + 1 => by unfold rSumT; rw [rSumT_zero r f T]; simp [cntF]
theorem rSumT_step (r : Int) (f : Nat → Int) (k : Nat) : ∀ T : Nat, rSumT r f (k + 1) T = rSumT r f k T + (if 1 ≤ f k ∧ f k ≤ (T : Int) then woF r (f k) else 0)
  | 0 => by
    unfold rSumT
    rw [if_neg (by omega)]; rfl
  | T + 1 => by
    show rSumT r f (k + 1) T + (cntF f k (T + 1) + (if f k = ((T + 1 : Nat) : Int) then 1 else 0)) * woF r ((T + 1 : Nat) : Int) = rSumT r f k T + cntF f k (T + 1) * woF r ((T + 1 : Nat) : Int) + _
    rw [rSumT_step r f k T, Int.add_mul]
    by_cases e : f k = ((T + 1 : Nat) : Int)
    · rw [if_pos e, if_neg (by omega), if_pos (by omega), e, Int.one_mul]; omega
    · rw [if_neg e, Int.zero_mul]
      by_cases h : 1 ≤ f k ∧ f k ≤ (T : Int)
      · rw [if_pos h, if_pos (by omega)]; omega
      · rw [if_neg h, if_neg (by omega)]; omega
theorem rSumT_all (r : Int) {f : Nat → Int} (hf : Vd f) : ∀ k, k ≤ 16 → rSumT r f k 17 = rSum r f k
  | 0, _ => rSumT_zero r f 17
  | k + 1, h => by
    have h2 := hf k (by omega)
    rw [rSumT_step, rSumT_all r hf k (by omega)]
    show _ = rSum r f k + woZ r (f k)
    unfold woZ
    by_cases e : 0 < f k
    · rw [if_pos e, if_pos (by omega)]
    · rw [if_neg e, if_neg (by omega)]
theorem rTerm_bd {r : Int} (hr : RlOk r) (f : Nat → Int) (k : Nat) (hk : k ≤ 16) (T : Nat) (h1 : 1 ≤ T) (hT : T ≤ 17) : 0 ≤ cntF f k T * woF r (T : Int) ∧ cntF f k T * woF r (T : Int) ≤ 4194304 := by
  have h1 := cntF_bd f k T
  have h2 := woF_bd hr (t := (T : Int)) (by unfold TlOk; omega)
  refine ⟨Int.mul_nonneg h1.1 (by omega), ?_⟩
  have := Int.mul_le_mul (a := cntF f k T) (b := woF r (T : Int)) (c := 16) (d := 262144) (by omega) h2.2 (by omega) (by omega)
  omega
theorem rSumT_bd {r : Int} (hr : RlOk r) (f : Nat → Int) (k : Nat) (hk : k ≤ 16) : ∀ T, T ≤ 17 → 0 ≤ rSumT r f k T ∧ rSumT r f k T ≤ T * 4194304
  | 0, _ => by simp [rSumT]
  | T + 1, h => by
    have h1 := rSumT_bd hr f k hk T (by omega)
    have h2 := rTerm_bd hr f k hk (T + 1) (by omega) h
    unfold rSumT; omega
def rSR (f : Nat → Int) (r : Int) : Int := if RbOk f r then rSum r f 16 else 0
theorem rSR_yes {f : Nat → Int} {r : Int} (h : RbOk f r) : rSR f r = rSum r f 16 := by simp [rSR, h]
theorem rSR_no {f : Nat → Int} {r : Int} (h : ¬ RbOk f r) : rSR f r = 0 := by simp [rSR, h]

/-- How far the tiles of a line lie behind: no slide makes it greater, and one that changes the line makes it less. -/
def farF (f : Nat → Int) : Nat → Int
  | 0 => 0
  | k + 1 => farF f k + (if f k = 0 then 0 else (k : Int) + 1)
theorem farF_bd (f : Nat → Int) : ∀ k, 0 ≤ farF f k ∧ farF f k ≤ k * k
  | 0 => by simp [farF]
  | k + 1 => by
    have h := farF_bd f k
    have : ((k + 1 : Nat) : Int) * ((k + 1 : Nat) : Int) = k * k + 2 * k + 1 := by push_cast; rw [Int.add_mul, Int.mul_add]; omega
    unfold farF; split <;> omega
theorem farF_congr {f g : Nat → Int} : ∀ k, (∀ i, i < k → f i = g i) → farF f k = farF g k
  | 0, _ => rfl
  | k + 1, h => by unfold farF; rw [farF_congr k fun i hi => h i (by omega), h k (by omega)]
def triF : Nat → Int
  | 0 => 0
  | n + 1 => triF n + (n + 1)
theorem rsl_far {m : Int → Int → Int} (hm : MgFn m) {f : Nat → Int} (hf : VdRow f) : ∀ k, k ≤ 4 → triF (rsl m f k).n ≤ farF f k ∧ (triF (rsl m f k).n = farF f k → ∀ j, j < k → (rsl m f k).row j = f j)
  | 0, _ => ⟨by simp [rsl, rsl0, triF, farF], fun _ j hj => absurd hj (by omega)⟩
  | k + 1, h => by
    obtain ⟨h1, h2⟩ := rsl_far hm hf k (by omega)
    have hk := rsl_ok hm hf k (by omega)
    have hn := hk.n_le
    have hr := hk.rest
    show triF (rslStep m (rsl m f k) (f k)).n ≤ farF f k + _ ∧ (triF (rslStep m (rsl m f k) (f k)).n = farF f k + _ → ∀ j, j < k + 1 → (rslStep m (rsl m f k) (f k)).row j = f j)
    generalize rsl m f k = s at *
    unfold rslStep
    by_cases h0 : f k = 0
    · rw [if_pos h0, if_pos h0]
      refine ⟨by omega, fun e j hj => ?_⟩
      by_cases ej : j < k
      · exact h2 (by omega) j ej
      · obtain rfl : j = k := by omega
        rw [h0]; exact hr j hn
    · rw [if_neg h0, if_neg h0]
      split
      · simp only []
        exact ⟨by omega, fun e => by omega⟩
      · simp only [triF]
        refine ⟨by omega, fun e j hj => ?_⟩
        by_cases ej : j < k
        · have e1 := h2 (by omega) j ej
          have e2 : s.n = k := by omega
          rw [upd_other _ _ (by omega)]; exact e1
        · obtain rfl : j = k := by omega
          have e2 : s.n = j := by omega
          rw [e2, upd_same]
theorem far_row {s : RSl} {n : Nat} (h : RslOk s n) : ∀ k, k ≤ s.n → farF s.row k = triF k
  | 0, _ => rfl
  | k + 1, hk => by
    unfold farF triF
    rw [far_row h k (by omega), if_neg (h.full k (by omega))]
theorem far_row_all {s : RSl} {n : Nat} (h : RslOk s n) : ∀ k, farF s.row (s.n + k) = triF s.n
  | 0 => far_row h s.n (Nat.le_refl _)
  | k + 1 => by
    show farF s.row (s.n + k) + (if s.row (s.n + k) = 0 then 0 else ((s.n + k : Nat) : Int) + 1) = _
    rw [far_row_all h k, if_pos (h.rest (s.n + k) (Nat.le_add_right _ _))]; omega
theorem line_far {m : Int → Int → Int} (hm : MgFn m) {f : Nat → Int} (hf : VdRow f) : farF (rsl m f 4).row 4 ≤ farF f 4 ∧ (farF (rsl m f 4).row 4 = farF f 4 → ∀ j, j < 4 → (rsl m f 4).row j = f j) := by
  have h := rsl_ok hm hf 4 (Nat.le_refl _)
  have h1 := rsl_far hm hf 4 (Nat.le_refl _)
  have h2 := far_row_all h (4 - (rsl m f 4).n)
  rw [show (rsl m f 4).n + (4 - (rsl m f 4).n) = 4 by have := h.n_le; omega] at h2
  rw [h2]; exact h1
def farB (f : Nat → Int) (d : Nat) : Int := farF (lineF f d 0) 4 + farF (lineF f d 1) 4 + farF (lineF f d 2) 4 + farF (lineF f d 3) 4
theorem farB_bd (f : Nat → Int) (d : Nat) : 0 ≤ farB f d ∧ farB f d ≤ 64 := by
  have h0 := farF_bd (lineF f d 0) 4
  have h1 := farF_bd (lineF f d 1) 4
  have h2 := farF_bd (lineF f d 2) 4
  have h3 := farF_bd (lineF f d 3) 4
  unfold farB; omega
theorem rB_lineF (m : Int → Int → Int) (f : Nat → Int) {d i : Nat} (hi : i < 4) : farF (lineF (rB m f d) d i) 4 = farF (rsl m (lineF f d i) 4).row 4 :=
  farF_congr 4 fun k hk => by show rB m f d (pos d i k) = _; unfold rB; rw [lineOf_pos hi hk, placeOf_pos hi hk]
/-- A slide by a rule that changes a board makes its tiles lie less far behind. -/
theorem rB_far {m : Int → Int → Int} (hm : MgFn m) {f : Nat → Int} (hf : Vd f) (d : Nat) (h : sameB (rB m f d) f = false) : farB (rB m f d) d < farB f d := by
  have hl : ∀ i, i < 4 → farF (rsl m (lineF f d i) 4).row 4 ≤ farF (lineF f d i) 4 ∧ (farF (rsl m (lineF f d i) 4).row 4 = farF (lineF f d i) 4 → ∀ j, j < 4 → (rsl m (lineF f d i) 4).row j = lineF f d i j) := fun i hi => line_far hm (lineF_vd hf d hi)
  have h0 := (hl 0 (by omega)).1
  have h1 := (hl 1 (by omega)).1
  have h2 := (hl 2 (by omega)).1
  have h3 := (hl 3 (by omega)).1
  have e : farB (rB m f d) d = farF (rsl m (lineF f d 0) 4).row 4 + farF (rsl m (lineF f d 1) 4).row 4 + farF (rsl m (lineF f d 2) 4).row 4 + farF (rsl m (lineF f d 3) 4).row 4 := by
    unfold farB; rw [rB_lineF m f (by omega : 0 < 4), rB_lineF m f (by omega : 1 < 4), rB_lineF m f (by omega : 2 < 4), rB_lineF m f (by omega : 3 < 4)]
  rw [e]
  unfold farB
  refine Int.not_le.1 fun hq => ?_
  have hs : sameB (rB m f d) f = true := sameB_iff.2 fun j hj => by
    have hi := lineOf_lt (d := d) hj
    have hp := placeOf_lt (d := d) hj
    have hz := (hl _ hi).2 (by
      rcases (by omega : lineOf d j = 0 ∨ lineOf d j = 1 ∨ lineOf d j = 2 ∨ lineOf d j = 3) with q | q | q | q <;> rw [q] <;> omega) _ hp
    unfold rB; rw [hz]; unfold lineF; rw [pos_of hj]
  rw [h] at hs; cases hs
/-- The slides of SettleBy: the board behind k of them, and how many change it. -/
def rIt (m : Int → Int → Int) (f : Nat → Int) (d : Nat) : Nat → Nat → Int
  | 0 => f
  | k + 1 => rB m (rIt m f d k) d
theorem rIt_vd {m : Int → Int → Int} (hm : MgFn m) {f : Nat → Int} (hf : Vd f) (d : Nat) : ∀ k, Vd (rIt m f d k)
  | 0 => hf
  | k + 1 => rB_vd hm (rIt_vd hm hf d k) d
def rLs (m : Int → Int → Int) (f : Nat → Int) (d : Nat) : Nat → Nat → Nat
  | 0, k => k
  | g + 1, k => if sameB (rB m (rIt m f d k) d) (rIt m f d k) then k else rLs m f d g (k + 1)
def rSt (m : Int → Int → Int) (f : Nat → Int) (d : Nat) : Nat := rLs m f d 65 0
theorem rLs_yes {m : Int → Int → Int} {f : Nat → Int} {d g k : Nat} (h : sameB (rB m (rIt m f d k) d) (rIt m f d k) = true) : rLs m f d (g + 1) k = k := by simp [rLs, h]
theorem rLs_no {m : Int → Int → Int} {f : Nat → Int} {d g k : Nat} (h : sameB (rB m (rIt m f d k) d) (rIt m f d k) = false) : rLs m f d (g + 1) k = rLs m f d g (k + 1) := by simp [rLs, h]
theorem rLs_le (m : Int → Int → Int) (f : Nat → Int) (d : Nat) : ∀ g k, k ≤ rLs m f d g k ∧ rLs m f d g k ≤ k + g
  | 0, k => by simp [rLs]
  | g + 1, k => by
    have := rLs_le m f d g (k + 1)
    unfold rLs; split <;> omega
/-- What SettleBy returns. -/
def rtB (f : Nat → Int) (d r : Int) : Nat → Int := if RsOk f d r then rIt (mgF r) f d.toNat (rSt (mgF r) f d.toNat) else fun _ => 0
def rtN (f : Nat → Int) (d r : Int) : Int := if RsOk f d r then rSt (mgF r) f d.toNat else 0
theorem rt_yes {f : Nat → Int} {d r : Int} (h : RsOk f d r) : rtB f d r = rIt (mgF r) f d.toNat (rSt (mgF r) f d.toNat) ∧ rtN f d r = rSt (mgF r) f d.toNat := by simp [rtB, rtN, h]
theorem rt_no {f : Nat → Int} {d r : Int} (h : ¬ RsOk f d r) : rtB f d r = (fun _ => 0) ∧ rtN f d r = 0 := by simp [rtB, rtN, h]
/-- What MostMergersBy returns: the greatest number of mergers, and the first direction that has it. -/
def rMost (m : Int → Int → Int) (f : Nat → Int) : Nat → Int × Int
  | 0 => (0, 0)
  | k + 1 => if (rMost m f k).1 < rM m f k 4 then (rM m f k 4, (k : Int)) else rMost m f k
theorem rMost_yes {m : Int → Int → Int} {f : Nat → Int} {k : Nat} (h : (rMost m f k).1 < rM m f k 4) : rMost m f (k + 1) = (rM m f k 4, (k : Int)) := by rw [rMost, if_pos h]
theorem rMost_no {m : Int → Int → Int} {f : Nat → Int} {k : Nat} (h : ¬ (rMost m f k).1 < rM m f k 4) : rMost m f (k + 1) = rMost m f k := by rw [rMost, if_neg h]
theorem rMost_bd {m : Int → Int → Int} (hm : MgFn m) {f : Nat → Int} (hf : Vd f) : ∀ k, 0 ≤ (rMost m f k).1 ∧ (rMost m f k).1 ≤ 16
  | 0 => by simp [rMost]
  | k + 1 => by
    have h := rMost_bd hm hf k
    have h2 := rM_bd hm hf k 4 (by omega)
    by_cases e : (rMost m f k).1 < rM m f k 4
    · rw [rMost_yes e]; simp only []; omega
    · rw [rMost_no e]; exact h
def rmN (f : Nat → Int) (r : Int) : Int := if RbOk f r then (rMost (mgF r) f 4).1 else 0
def rmD (f : Nat → Int) (r : Int) : Int := if RbOk f r then (rMost (mgF r) f 4).2 else 0
theorem rmost_yes {f : Nat → Int} {r : Int} (h : RbOk f r) : rmN f r = (rMost (mgF r) f 4).1 ∧ rmD f r = (rMost (mgF r) f 4).2 := by simp [rmN, rmD, h]
theorem rmost_no {f : Nat → Int} {r : Int} (h : ¬ RbOk f r) : rmN f r = 0 ∧ rmD f r = 0 := by simp [rmN, rmD, h]
/-- What RulesAgree returns: the rules among the first k by which the slide makes the board of chapter 2. -/
def rAg (f : Nat → Int) (d : Nat) : Nat → List Int
  | 0 => []
  | k + 1 => if sameB (rB (mgF ((k : Int) + 1)) f d) (slideB f d) then rAg f d k ++ [(k : Int) + 1] else rAg f d k
theorem rAg_yes {f : Nat → Int} {d k : Nat} (h : sameB (rB (mgF ((k : Int) + 1)) f d) (slideB f d) = true) : rAg f d (k + 1) = rAg f d k ++ [(k : Int) + 1] := by simp [rAg, h]
theorem rAg_no {f : Nat → Int} {d k : Nat} (h : sameB (rB (mgF ((k : Int) + 1)) f d) (slideB f d) = false) : rAg f d (k + 1) = rAg f d k := by simp [rAg, h]
theorem rAg_le (f : Nat → Int) (d : Nat) : ∀ k, (rAg f d k).length ≤ k
  | 0 => by simp [rAg]
  | k + 1 => by have := rAg_le f d k; unfold rAg; split <;> simp <;> omega
def rAR (f : Nat → Int) (d : Int) : List Int := if SlideOk f d then rAg f d.toNat 4 else []
theorem rAR_yes {f : Nat → Int} {d : Int} (h : SlideOk f d) : rAR f d = rAg f d.toNat 4 := by simp [rAR, h]
theorem rAR_no {f : Nat → Int} {d : Int} (h : ¬ SlideOk f d) : rAR f d = [] := by simp [rAR, h]
/-- What CommonMoves returns: the directions among the first k in which the slide is a move by each rule. -/
def rAll (f : Nat → Int) (d : Nat) : Nat → Bool
  | 0 => true
  | k + 1 => rAll f d k && rMv (mgF ((k : Int) + 1)) f d
def rCm (f : Nat → Int) : Nat → List Int
  | 0 => []
  | k + 1 => if rAll f k 4 then rCm f k ++ [(k : Int)] else rCm f k
theorem rCm_yes {f : Nat → Int} {k : Nat} (h : rAll f k 4 = true) : rCm f (k + 1) = rCm f k ++ [(k : Int)] := by simp [rCm, h]
theorem rCm_no {f : Nat → Int} {k : Nat} (h : rAll f k 4 = false) : rCm f (k + 1) = rCm f k := by simp [rCm, h]
theorem rCm_le (f : Nat → Int) : ∀ k, (rCm f k).length ≤ k
  | 0 => by simp [rCm]
  | k + 1 => by have := rCm_le f k; unfold rCm; split <;> simp <;> omega
theorem rAll_false (f : Nat → Int) (d : Nat) {k : Nat} (h : rAll f d k = false) : ∀ n, rAll f d (k + n) = false
  | 0 => h
  | n + 1 => by show (rAll f d (k + n) && _) = false; rw [rAll_false f d h n]; rfl
def rCR (f : Nat → Int) : List Int := if Vd f then rCm f 4 else []
theorem rCR_yes {f : Nat → Int} (h : Vd f) : rCR f = rCm f 4 := by simp [rCR, h]
theorem rCR_no {f : Nat → Int} (h : ¬ Vd f) : rCR f = [] := by simp [rCR, h]

/-- What PairsBy returns: the pairs whose less tile is below s, and of s those whose greater one is below t. -/
def prI (r : Int) (s : Int) : Nat → List Int
  | 0 => []
  | k + 1 => if 0 < mgF r s (s + k) then prI r s k ++ [s, s + k] else prI r s k
def prO (r : Int) : Nat → List Int
  | 0 => []
  | n + 1 => prO r n ++ prI r ((n : Int) + 1) (17 - n)
def prN (r s : Int) : Nat → Nat
  | 0 => 0
  | k + 1 => if 0 < mgF r s (s + k) then prN r s k + 1 else prN r s k
def prM (r : Int) : Nat → Nat
  | 0 => 0
  | n + 1 => prM r n + prN r ((n : Int) + 1) (17 - n)
theorem prI_yes {r s : Int} {k : Nat} (h : 0 < mgF r s (s + k)) : prI r s (k + 1) = prI r s k ++ [s, s + k] ∧ prN r s (k + 1) = prN r s k + 1 := by simp [prI, prN, h]
theorem prI_no {r s : Int} {k : Nat} (h : ¬ 0 < mgF r s (s + k)) : prI r s (k + 1) = prI r s k ∧ prN r s (k + 1) = prN r s k := by simp [prI, prN, h]
theorem prN_len (r s : Int) : ∀ k, (prI r s k).length = prN r s k * 2
  | 0 => rfl
  | k + 1 => by
    have := prN_len r s k
    by_cases h : 0 < mgF r s (s + k)
    · rw [(prI_yes h).1, (prI_yes h).2]; simp; omega
    · rw [(prI_no h).1, (prI_no h).2]; exact this
theorem prN_le (r s : Int) : ∀ k, prN r s k ≤ k
  | 0 => Nat.le_refl _
  | k + 1 => by have := prN_le r s k; unfold prN; split <;> omega
theorem prM_len (r : Int) : ∀ n, (prO r n).length = prM r n * 2
  | 0 => rfl
  | n + 1 => by
    have := prM_len r n
    show (prO r n ++ _).length = (prM r n + _) * 2
    rw [List.length_append, prN_len, this]; omega
theorem prM_le (r : Int) : ∀ n, prM r n ≤ n * 17
  | 0 => Nat.le_refl _
  | n + 1 => by
    have h1 := prM_le r n
    have h2 := prN_le r ((n : Int) + 1) (17 - n)
    show prM r n + _ ≤ _
    omega
def prR (r : Int) : List Int := if RlOk r then prO r 17 else []
def prC (r : Int) : Nat := if RlOk r then prM r 17 else 0
theorem pr_yes {r : Int} (h : RlOk r) : prR r = prO r 17 ∧ prC r = prM r 17 := by simp [prR, prC, h]
theorem pr_no {r : Int} (h : ¬ RlOk r) : prR r = [] ∧ prC r = 0 := by simp [prR, prC, h]
end Go.Proofs.Ytblcojacmjbjcaa.Plain
