/-
  Plain facts on replays: their boards, and what is read of them. No program stands in this text.
-/
import Derived.Test.YtfjpdopljmilpaaPlayPlain
import Derived.Test.YtfjpdopljmilpaaPlainA
namespace Go.Proofs.Ytfjpdopljmilpaa.Plain
theorem pyN_le (f h : Nat → Int) : ∀ k, pyN f h k ≤ k
  | 0 => Nat.le_refl _
  | k + 1 => by
    have := pyN_le f h k
    unfold pyN; split <;> omega
theorem py_down {f h : Nat → Int} : ∀ {n}, pyN f h n = n → ∀ k, k ≤ n → pyN f h k = k ∧ (k < n → StepOk (pyB f h k) (stAt h k))
  | 0, _, k, hk => by obtain rfl : k = 0 := by omega
                      exact ⟨rfl, fun q => by omega⟩
  | n + 1, hn, k, hk => by
    have h0 := pyN_le f h n
    have h1 : pyN f h n = n ∧ StepOk (pyB f h n) (stAt h n) := by
      unfold pyN at hn
      split at hn
      · assumption
      · omega
    rcases (by omega : k = n + 1 ∨ k ≤ n) with rfl | q
    · exact ⟨hn, fun q => by omega⟩
    · have ih := py_down h1.1 k q
      refine ⟨ih.1, fun _ => ?_⟩
      rcases (by omega : k = n ∨ k < n) with rfl | q2
      · exact h1.2
      · exact ih.2 q2
theorem py_up {f h : Nat → Int} : ∀ {n}, (∀ k, k < n → StepOk (pyB f h k) (stAt h k)) → pyN f h n = n
  | 0, _ => rfl
  | n + 1, hs => by
    have ih := py_up (n := n) fun k hk => hs k (by omega)
    unfold pyN
    rw [if_pos ⟨ih, hs n (by omega)⟩]
/-- These steps are a replay. -/
def RpOk (f h : Nat → Int) (n : Nat) : Prop := Vd f ∧ n ≤ 40 ∧ pyN f h n = n
instance (f h : Nat → Int) (n : Nat) : Decidable (RpOk f h n) := by unfold RpOk; infer_instance
def rplO (f h : Nat → Int) (n : Nat) : Bool := decide (RpOk f h n)
theorem rplO_yes {f h : Nat → Int} {n : Nat} (q : RpOk f h n) : rplO f h n = true := by simp [rplO, q]
theorem rplO_no {f h : Nat → Int} {n : Nat} (q : ¬ RpOk f h n) : rplO f h n = false := by simp [rplO, q]
theorem RpOk.step {f h : Nat → Int} {n : Nat} (q : RpOk f h n) {k : Nat} (hk : k < n) : StepOk (pyB f h k) (stAt h k) := (py_down q.2.2 k (by omega)).2 hk
theorem RpOk.vd {f h : Nat → Int} {n : Nat} (q : RpOk f h n) (k : Nat) : Vd (pyB f h k) := pyB_vd q.1 h k
/-- The boards of a replay, one behind the other. -/
def rbF (f h : Nat → Int) : Nat → Int := fun j => pyB f h (j / 16) (j % 16)
theorem rbF_at (f h : Nat → Int) (k : Nat) : (fun j => rbF f h (k * 16 + j)) = fun j => pyB f h (k + j / 16) (j % 16) := by
  funext j
  show pyB f h ((k * 16 + j) / 16) ((k * 16 + j) % 16) = _
  rw [show (k * 16 + j) / 16 = k + j / 16 by omega, show (k * 16 + j) % 16 = j % 16 by omega]
theorem rbF_in (f h : Nat → Int) (k : Nat) {j : Nat} (hj : j < 16) : rbF f h (k * 16 + j) = pyB f h k j := by
  show pyB f h ((k * 16 + j) / 16) ((k * 16 + j) % 16) = _
  rw [show (k * 16 + j) / 16 = k by omega, show (k * 16 + j) % 16 = j by omega]
/-- The same, as a list of boards. -/
def rbL (f h : Nat → Int) : Nat → List (List Int)
  | 0 => []
  | k + 1 => rbL f h k ++ [cl 16 (pyB f h k)]
theorem rbL_len (f h : Nat → Int) : ∀ k, (rbL f h k).length = k
  | 0 => rfl
  | k + 1 => by simp [rbL, rbL_len f h k]
theorem rbL_get (f h : Nat → Int) : ∀ {n k}, k < n → (rbL f h n)[k]? = some (cl 16 (pyB f h k))
  | n + 1, k, hk => by
    unfold rbL
    rcases (by omega : k < n ∨ k = n) with q | rfl
    · rw [List.getElem?_append_left (by rw [rbL_len]; exact q)]; exact rbL_get f h q
    · rw [List.getElem?_append_right (by rw [rbL_len]; omega), rbL_len]; simp
theorem rbL_all (f h : Nat → Int) : ∀ n x, x ∈ rbL f h n → x.length = 16
  | n + 1, x, hx => by
    rcases List.mem_append.1 hx with hx | hx
    · exact rbL_all f h n x hx
    · obtain rfl : x = cl 16 (pyB f h n) := by simpa using hx
      exact cl_len _ _
/-- What BoardAt returns. -/
def ratOk (f h : Nat → Int) (n : Nat) (k : Int) : Prop := RpOk f h n ∧ 0 ≤ k ∧ k ≤ n
instance (f h : Nat → Int) (n : Nat) (k : Int) : Decidable (ratOk f h n k) := by unfold ratOk; infer_instance
def ratB (f h : Nat → Int) (n : Nat) (k : Int) : Nat → Int := if ratOk f h n k then pyB f h k.toNat else fun _ => 0
def ratO (f h : Nat → Int) (n : Nat) (k : Int) : Bool := decide (ratOk f h n k)
theorem rat_yes {f h : Nat → Int} {n : Nat} {k : Int} (q : ratOk f h n k) : ratB f h n k = pyB f h k.toNat ∧ ratO f h n k = true := by simp [ratB, ratO, q]
theorem rat_no {f h : Nat → Int} {n : Nat} {k : Int} (q : ¬ ratOk f h n k) : ratB f h n k = (fun _ => 0) ∧ ratO f h n k = false := by simp [ratB, ratO, q]
/-- What ReplayScore returns. -/
def rscS (f h : Nat → Int) (n : Nat) : Int := if RpOk f h n then pyS f h n else 0
theorem rsc_yes {f h : Nat → Int} {n : Nat} (q : RpOk f h n) : rscS f h n = pyS f h n := by simp [rscS, q]
theorem rsc_no {f h : Nat → Int} {n : Nat} (q : ¬ RpOk f h n) : rscS f h n = 0 := by simp [rscS, q]
/-- What PlaySteps tells of a list that is a replay's. -/
theorem py_rp {f h : Nat → Int} {n : Nat} (q : RpOk f h n) : pyRB f h n = pyB f h n ∧ pyRS f h n = pyS f h n ∧ pyRN f h n = (n : Int) ∧ vdO f = true := by
  obtain ⟨y1, y2, y3⟩ := py_yes (h := h) (n := n) q.1
  rw [y1, y2, y3, q.2.2, vdO_yes q.1]; exact ⟨rfl, rfl, rfl, rfl⟩
theorem rp_tells {f h : Nat → Int} {n : Nat} (hn : n ≤ 40) : RpOk f h n ↔ vdO f = true ∧ pyRN f h n = (n : Int) := by
  constructor
  · intro q; exact ⟨(py_rp q).2.2.2, (py_rp q).2.2.1⟩
  · rintro ⟨h1, h2⟩
    have hV : Vd f := by simpa [vdO] using h1
    obtain ⟨_, _, y3⟩ := py_yes (h := h) (n := n) hV
    exact ⟨hV, hn, by rw [y3] at h2; omega⟩
/-- How many of the first k steps of two lists are the same, up to the first two that are not. -/
def comN (h g : Nat → Int) : Nat → Nat
  | 0 => 0
  | k + 1 => if comN h g k = k ∧ cl 4 (stAt h k) = cl 4 (stAt g k) then k + 1 else comN h g k
theorem comN_le (h g : Nat → Int) : ∀ k, comN h g k ≤ k
  | 0 => Nat.le_refl _
  | k + 1 => by have := comN_le h g k; unfold comN; split <;> omega
theorem comN_yes {h g : Nat → Int} {k : Nat} (hk : comN h g k = k) (e : cl 4 (stAt h k) = cl 4 (stAt g k)) : comN h g (k + 1) = k + 1 := by
  unfold comN; rw [if_pos ⟨hk, e⟩]
theorem comN_no {h g : Nat → Int} {k : Nat} (hk : comN h g k = k) (e : ¬ cl 4 (stAt h k) = cl 4 (stAt g k)) : ∀ m, k ≤ m → comN h g m = k := by
  intro m hm
  induction m with
  | zero => obtain rfl : k = 0 := by omega
            rfl
  | succ m ih =>
    rcases (by omega : k = m + 1 ∨ k ≤ m) with rfl | q
    · exact hk
    · have := ih q
      unfold comN
      rw [if_neg, this]
      rintro ⟨q1, q2⟩
      have : k = m := by omega
      subst this
      exact e q2
/-- What CommonSteps returns. -/
def cmnOk (f h : Nat → Int) (n : Nat) (f' g : Nat → Int) (m : Nat) : Prop := RpOk f h n ∧ RpOk f' g m ∧ sameB f f' = true
instance (f h : Nat → Int) (n : Nat) (f' g : Nat → Int) (m : Nat) : Decidable (cmnOk f h n f' g m) := by unfold cmnOk; infer_instance
def cmnR (f h : Nat → Int) (n : Nat) (f' g : Nat → Int) (m : Nat) : Int := if cmnOk f h n f' g m then (comN h g (min n m) : Int) else 0
def cmnO (f h : Nat → Int) (n : Nat) (f' g : Nat → Int) (m : Nat) : Bool := decide (cmnOk f h n f' g m)
theorem cmn_yes {f h f' g : Nat → Int} {n m : Nat} (q : cmnOk f h n f' g m) : cmnR f h n f' g m = (comN h g (min n m) : Int) ∧ cmnO f h n f' g m = true := by simp [cmnR, cmnO, q]
theorem cmn_no {f h f' g : Nat → Int} {n m : Nat} (q : ¬ cmnOk f h n f' g m) : cmnR f h n f' g m = 0 ∧ cmnO f h n f' g m = false := by simp [cmnR, cmnO, q]
/-- The first k below N at which two rows of boards are not the same, if there is one. -/
def ptgK (f h f' g : Nat → Int) : Nat → Option Nat
  | 0 => none
  | k + 1 => match ptgK f h f' g k with
    | some j => some j
    | none => if sameB (pyB f h k) (pyB f' g k) = true then none else some k
theorem ptgK_same {f h f' g : Nat → Int} {k : Nat} (hk : ptgK f h f' g k = none) (e : sameB (pyB f h k) (pyB f' g k) = true) : ptgK f h f' g (k + 1) = none := by
  unfold ptgK; rw [hk]; simp [e]
theorem ptgK_part {f h f' g : Nat → Int} {k : Nat} (hk : ptgK f h f' g k = none) (e : sameB (pyB f h k) (pyB f' g k) = false) : ∀ m, k < m → ptgK f h f' g m = some k := by
  intro m hm
  induction m with
  | zero => omega
  | succ m ih =>
    rcases (by omega : k = m ∨ k < m) with rfl | q
    · unfold ptgK; rw [hk]; simp [e]
    · unfold ptgK; rw [ih q]
/-- What FirstParting returns. -/
def ptgR (f h : Nat → Int) (n : Nat) (f' g : Nat → Int) (m : Nat) : Int × Bool :=
  if RpOk f h n ∧ RpOk f' g m then (match ptgK f h f' g (min (n + 1) (m + 1)) with | some k => ((k : Int), true) | none => (0, false)) else (0, false)
theorem ptg_some {f h f' g : Nat → Int} {n m k : Nat} (q : RpOk f h n ∧ RpOk f' g m) (e : ptgK f h f' g (min (n + 1) (m + 1)) = some k) : ptgR f h n f' g m = ((k : Int), true) := by
  unfold ptgR; rw [if_pos q, e]
theorem ptg_none {f h f' g : Nat → Int} {n m : Nat} (q : RpOk f h n ∧ RpOk f' g m) (e : ptgK f h f' g (min (n + 1) (m + 1)) = none) : ptgR f h n f' g m = (0, false) := by
  unfold ptgR; rw [if_pos q, e]
theorem ptg_no {f h f' g : Nat → Int} {n m : Nat} (q : ¬ (RpOk f h n ∧ RpOk f' g m)) : ptgR f h n f' g m = (0, false) := by
  unfold ptgR; rw [if_neg q]
/-- The greatest tile of the first k boards, and the first place that has it. -/
def hinP (f h : Nat → Int) : Nat → Int × Nat
  | 0 => (0, 0)
  | k + 1 => if (hinP f h k).1 < (hiF (pyB f h k) 16).1 then ((hiF (pyB f h k) 16).1, k) else hinP f h k
theorem hin_yes {f h : Nat → Int} {k : Nat} (q : (hinP f h k).1 < (hiF (pyB f h k) 16).1) : hinP f h (k + 1) = ((hiF (pyB f h k) 16).1, k) := by rw [hinP, if_pos q]
theorem hin_no {f h : Nat → Int} {k : Nat} (q : ¬ (hinP f h k).1 < (hiF (pyB f h k) 16).1) : hinP f h (k + 1) = hinP f h k := by rw [hinP, if_neg q]
theorem hin_bd {f h : Nat → Int} (hV : Vd f) : ∀ k, 0 ≤ (hinP f h k).1 ∧ (hinP f h k).1 ≤ 17 ∧ (hinP f h k).2 ≤ k
  | 0 => by simp [hinP]
  | k + 1 => by
    have h1 := hin_bd (h := h) hV k
    have h2 := hiF_bd (pyB_vd hV h k) 16 (Nat.le_refl _)
    by_cases q : (hinP f h k).1 < (hiF (pyB f h k) 16).1
    · rw [hin_yes q]; exact ⟨h2.1, h2.2, by simp⟩
    · rw [hin_no q]; omega
/-- What HighestIn returns. -/
def hinT (f h : Nat → Int) (n : Nat) : Int := if RpOk f h n then (hinP f h (n + 1)).1 else 0
def hinK (f h : Nat → Int) (n : Nat) : Int := if RpOk f h n then ((hinP f h (n + 1)).2 : Int) else 0
def hinO (f h : Nat → Int) (n : Nat) : Bool := if RpOk f h n then decide (0 < (hinP f h (n + 1)).1) else false
theorem hinR_yes {f h : Nat → Int} {n : Nat} (q : RpOk f h n) : hinT f h n = (hinP f h (n + 1)).1 ∧ hinK f h n = ((hinP f h (n + 1)).2 : Int) ∧ hinO f h n = decide (0 < (hinP f h (n + 1)).1) := by simp [hinT, hinK, hinO, q]
theorem hinR_no {f h : Nat → Int} {n : Nat} (q : ¬ RpOk f h n) : hinT f h n = 0 ∧ hinK f h n = 0 ∧ hinO f h n = false := by simp [hinT, hinK, hinO, q]
/-- One step more. -/
def addH (h : Nat → Int) (n : Nat) (t : Nat → Int) : Nat → Int := fun j => if j < n * 4 then h j else t (j - n * 4)
theorem addH_old (h : Nat → Int) (n : Nat) (t : Nat → Int) {k : Nat} (hk : k < n) : cl 4 (stAt (addH h n t) k) = cl 4 (stAt h k) := cl_inj.2 fun i hi => by
  show addH h n t (k * 4 + i) = h (k * 4 + i)
  unfold addH; rw [if_pos (by omega)]
theorem addH_new (h : Nat → Int) (n : Nat) (t : Nat → Int) (i : Nat) : stAt (addH h n t) n i = t i := by
  show addH h n t (n * 4 + i) = t i
  unfold addH; rw [if_neg (by omega)]; congr 1; omega
theorem py_congr {f h g : Nat → Int} : ∀ {n}, (∀ j, j < n * 4 → h j = g j) → pyB f h n = pyB f g n ∧ pyS f h n = pyS f g n ∧ pyN f h n = pyN f g n
  | 0, _ => ⟨rfl, rfl, rfl⟩
  | n + 1, e => by
    obtain ⟨a, b, c⟩ := py_congr (n := n) (f := f) fun j hj => e j (by omega)
    have hs : ∀ i, i < 4 → stAt h n i = stAt g n i := fun i hi => e (n * 4 + i) (by omega)
    obtain ⟨d1, d2, d3⟩ := do_congr (f := pyB f h n) hs
    have h1 : StepOk (pyB f h n) (stAt h n) ↔ StepOk (pyB f g n) (stAt g n) := by
      rw [a]
      exact ⟨fun q => q.congr hs, fun q => q.congr fun i hi => (hs i hi).symm⟩
    refine ⟨?_, ?_, ?_⟩
    · show doB (pyB f h n) (stAt h n) = doB (pyB f g n) (stAt g n); rw [d1, a]
    · show pyS f h n + doS (pyB f h n) (stAt h n) = pyS f g n + doS (pyB f g n) (stAt g n); rw [d2, b, a]
    · unfold pyN; rw [c]; simp only [h1]
theorem addH_py (f h : Nat → Int) (n : Nat) (t : Nat → Int) : pyB f (addH h n t) n = pyB f h n ∧ pyN f (addH h n t) n = pyN f h n := by
  have := py_congr (f := f) (h := addH h n t) (g := h) (n := n) fun j hj => by unfold addH; rw [if_pos hj]
  exact ⟨this.1, this.2.2⟩
/-- What AddStep tells. -/
def addOk (f h : Nat → Int) (n : Nat) (t : Nat → Int) : Prop := RpOk f h n ∧ n < 40 ∧ StepOk (pyB f h n) t
instance (f h : Nat → Int) (n : Nat) (t : Nat → Int) : Decidable (addOk f h n t) := by unfold addOk; infer_instance
theorem add_iff {f h : Nat → Int} {n : Nat} {t : Nat → Int} : addOk f h n t ↔ RpOk f (addH h n t) (n + 1) := by
  obtain ⟨a, b⟩ := addH_py f h n t
  constructor
  · rintro ⟨⟨h1, h2, h3⟩, h4, h5⟩
    refine ⟨h1, by omega, ?_⟩
    unfold pyN
    rw [if_pos ⟨by rw [b]; exact h3, by rw [a]; exact h5.congr fun i hi => (addH_new h n t i).symm⟩]
  · rintro ⟨h1, h2, h3⟩
    obtain ⟨d1, d2⟩ := py_down h3 n (by omega)
    have d2 := d2 (by omega)
    rw [a] at d2
    exact ⟨⟨h1, by omega, by rw [← b]; exact d1⟩, by omega, d2.congr fun i hi => addH_new h n t i⟩
/-- What UndoSteps tells. -/
def undOk (f h : Nat → Int) (n : Nat) (k : Int) : Prop := RpOk f h n ∧ 0 ≤ k ∧ k ≤ n
instance (f h : Nat → Int) (n : Nat) (k : Int) : Decidable (undOk f h n k) := by unfold undOk; infer_instance
theorem RpOk.cut {f h : Nat → Int} {n : Nat} (q : RpOk f h n) {m : Nat} (hm : m ≤ n) : RpOk f h m := ⟨q.1, by have := q.2.1; omega, (py_down q.2.2 m hm).1⟩
end Go.Proofs.Ytfjpdopljmilpaa.Plain
