/-
  Plain facts on steps: a move, and behind it a new tile. No program stands in this text.
-/
import Derived.Test.YtfjpdopljmilpaaPlainA
namespace Go.Proofs.Ytfjpdopljmilpaa.Plain
theorem getD_left {L M : List Int} {i : Nat} (h : i < L.length) : (L ++ M).getD i 0 = L.getD i 0 := by
  rw [List.getD_eq_getElem?_getD, List.getD_eq_getElem?_getD, List.getElem?_append_left h]
theorem getD_right {L M : List Int} {i k : Nat} (h : i = L.length + k) : (L ++ M).getD i 0 = M.getD k 0 := by
  subst h
  rw [List.getD_eq_getElem?_getD, List.getD_eq_getElem?_getD, List.getElem?_append_right (by omega)]
  congr 2; omega
theorem emp_in (f : Nat → Int) : ∀ (k i : Nat), i < empN f k → ∃ j, j < k ∧ f j = 0 ∧ (empL f k).getD (i * 2) 0 = ((j / 4 : Nat) : Int) ∧ (empL f k).getD (i * 2 + 1) 0 = ((j % 4 : Nat) : Int)
  | 0, i, h => by simp [empN] at h
  | k + 1, i, h => by
    by_cases h0 : f k = 0
    · obtain ⟨y1, y2⟩ := emp_yes h0
      rw [y2] at h
      have hl := emp_len f k
      by_cases hi : i < empN f k
      · obtain ⟨j, hj, h1, h2, h3⟩ := emp_in f k i hi
        refine ⟨j, by omega, h1, ?_, ?_⟩
        · rw [y1, getD_left (by omega)]; exact h2
        · rw [y1, getD_left (by omega)]; exact h3
      · obtain rfl : i = empN f k := by omega
        refine ⟨k, by omega, h0, ?_, ?_⟩
        · rw [y1, getD_right (k := 0) (by omega)]; rfl
        · rw [y1, getD_right (k := 1) (by omega)]; rfl
    · obtain ⟨y1, y2⟩ := emp_no h0
      rw [y2] at h
      obtain ⟨j, hj, h1, h2, h3⟩ := emp_in f k i h
      exact ⟨j, by omega, h1, by rw [y1]; exact h2, by rw [y1]; exact h3⟩

/-- A step: the direction, the cell by its row and its column, the new tile. -/
def stp (d : Int) (E : Nat → Int) (i : Nat) (t : Int) : Nat → Int := fun j => if j = 0 then d else if j = 1 then E (i * 2) else if j = 2 then E (i * 2 + 1) else t
def stps (d : Int) (E : Nat → Int) : Nat → List (List Int)
  | 0 => []
  | i + 1 => stps d E i ++ [cl 4 (stp d E i 1), cl 4 (stp d E i 2)]
theorem stps_len (d : Int) (E : Nat → Int) : ∀ i, (stps d E i).length = i * 2
  | 0 => rfl
  | i + 1 => by have := stps_len d E i; simp [stps, this]; omega
theorem stps_mem {d : Int} {E : Nat → Int} {x : List Int} : ∀ {n}, x ∈ stps d E n → ∃ i, i < n ∧ (x = cl 4 (stp d E i 1) ∨ x = cl 4 (stp d E i 2))
  | 0, h => by cases h
  | n + 1, h => by
    rcases List.mem_append.1 h with h | h
    · obtain ⟨i, hi, e⟩ := stps_mem h; exact ⟨i, by omega, e⟩
    · exact ⟨n, by omega, by simpa using h⟩
/-- The empty cells of a board, two numbers a cell. -/
def empF (f : Nat → Int) : Nat → Int := fun j => (empL f 16).getD j 0
/-- The steps with one direction, and those with the first k directions. -/
def stepL (f : Nat → Int) (d : Nat) : List (List Int) := if sameB (slideB f d) f = true then [] else stps (d : Int) (empF (slideB f d)) (empN (slideB f d) 16)
theorem step_same {f : Nat → Int} {d : Nat} (h : sameB (slideB f d) f = true) : stepL f d = [] := by simp [stepL, h]
theorem step_move {f : Nat → Int} {d : Nat} (h : sameB (slideB f d) f = false) : stepL f d = stps (d : Int) (empF (slideB f d)) (empN (slideB f d) 16) := by simp [stepL, h]
theorem step_le (f : Nat → Int) (d : Nat) : (stepL f d).length ≤ 32 := by
  have := empN_le (slideB f d) 16
  unfold stepL; split
  · simp
  · rw [stps_len]; omega
def allL (f : Nat → Int) : Nat → List (List Int)
  | 0 => []
  | k + 1 => allL f k ++ stepL f k
theorem all_le (f : Nat → Int) : ∀ k, (allL f k).length ≤ k * 32
  | 0 => Nat.le_refl _
  | k + 1 => by have h1 := all_le f k; have h2 := step_le f k; simp [allL]; omega
theorem all_mem {f : Nat → Int} {x : List Int} : ∀ {k}, x ∈ allL f k → ∃ d, d < k ∧ x ∈ stepL f d
  | 0, h => by cases h
  | k + 1, h => by
    rcases List.mem_append.1 h with h | h
    · obtain ⟨d, hd, e⟩ := all_mem h; exact ⟨d, by omega, e⟩
    · exact ⟨k, by omega, h⟩
/-- The cell of a step. -/
def cellS (s : Nat → Int) : Nat → Int := fun i => s (1 + i)
/-- This is a step of a board. -/
def StepOk (f s : Nat → Int) : Prop := (0 ≤ s 0 ∧ s 0 ≤ 3) ∧ CellIn (cellS s) ∧ (1 ≤ s 3 ∧ s 3 ≤ 2) ∧ sameB (slideB f (s 0).toNat) f = false ∧ slideB f (s 0).toNat (placeAt (cellS s)) = 0
instance (f s : Nat → Int) : Decidable (StepOk f s) := by unfold StepOk; infer_instance
/-- The board behind a step, and the score. -/
def doB (f s : Nat → Int) : Nat → Int := if StepOk f s then upd (slideB f (s 0).toNat) (placeAt (cellS s)) (s 3) else fun _ => 0
def doS (f s : Nat → Int) : Int := if StepOk f s then slideS f (s 0).toNat 4 else 0
def doO (f s : Nat → Int) : Bool := decide (StepOk f s)
theorem do_yes {f s : Nat → Int} (h : StepOk f s) : doB f s = upd (slideB f (s 0).toNat) (placeAt (cellS s)) (s 3) ∧ doS f s = slideS f (s 0).toNat 4 ∧ doO f s = true := by simp [doB, doS, doO, h]
theorem do_no {f s : Nat → Int} (h : ¬ StepOk f s) : doB f s = (fun _ => 0) ∧ doS f s = 0 ∧ doO f s = false := by simp [doB, doS, doO, h]
theorem do_vd {f s : Nat → Int} (hV : Vd f) : Vd (doB f s) := fun j hj => by
  by_cases h : StepOk f s
  · rw [(do_yes h).1]; unfold upd
    obtain ⟨_, _, h3, _⟩ := h
    split
    · omega
    · exact slideB_vd hV _ j hj
  · rw [(do_no h).1]; exact ⟨Int.le_refl _, (by decide : (0 : Int) ≤ 17)⟩
/-- What DoStep returns. -/
def doRB (f s : Nat → Int) : Nat → Int := if Vd f then doB f s else fun _ => 0
def doRS (f s : Nat → Int) : Int := if Vd f then doS f s else 0
def doRO (f s : Nat → Int) : Bool := if Vd f then doO f s else false
theorem doR_yes {f s : Nat → Int} (h : Vd f) : doRB f s = doB f s ∧ doRS f s = doS f s ∧ doRO f s = doO f s := by simp [doRB, doRS, doRO, h]
theorem doR_no {f s : Nat → Int} (h : ¬ Vd f) : doRB f s = (fun _ => 0) ∧ doRS f s = 0 ∧ doRO f s = false := by simp [doRB, doRS, doRO, h]
theorem stp_ok {f : Nat → Int} {d i : Nat} {t : Int} (hd : d < 4) (hm : sameB (slideB f d) f = false) (hi : i < empN (slideB f d) 16) (ht : 1 ≤ t ∧ t ≤ 2) : StepOk f (stp (d : Int) (empF (slideB f d)) i t) := by
  obtain ⟨j, hj, h0, h1, h2⟩ := emp_in (slideB f d) 16 i hi
  have e1 : stp (d : Int) (empF (slideB f d)) i t 0 = (d : Int) := rfl
  have e2 : cellS (stp (d : Int) (empF (slideB f d)) i t) 0 = ((j / 4 : Nat) : Int) := h1
  have e3 : cellS (stp (d : Int) (empF (slideB f d)) i t) 1 = ((j % 4 : Nat) : Int) := h2
  have e4 : stp (d : Int) (empF (slideB f d)) i t 3 = t := rfl
  have e5 : placeAt (cellS (stp (d : Int) (empF (slideB f d)) i t)) = j := by unfold placeAt; rw [e2, e3]; omega
  refine ⟨by rw [e1]; omega, ⟨by rw [e2]; omega, by rw [e3]; omega⟩, by rw [e4]; exact ht, by rw [e1]; exact hm, ?_⟩
  rw [e1, e5]; exact h0
/-- What is listed are steps. -/
theorem step_ok {f : Nat → Int} {d : Nat} {x : List Int} (hd : d < 4) (h : x ∈ stepL f d) : ∃ s, x = cl 4 s ∧ StepOk f s := by
  by_cases hm : sameB (slideB f d) f = true
  · rw [step_same hm] at h; cases h
  · have hm : sameB (slideB f d) f = false := by simpa using hm
    rw [step_move hm] at h
    obtain ⟨i, hi, e | e⟩ := stps_mem h
    · exact ⟨_, e, stp_ok hd hm hi (by omega)⟩
    · exact ⟨_, e, stp_ok hd hm hi (by omega)⟩
theorem StepOk.congr {f s u : Nat → Int} (h : ∀ i, i < 4 → s i = u i) (hs : StepOk f s) : StepOk f u := by
  obtain ⟨⟨a, b⟩, ⟨⟨c1, c2⟩, c3, c4⟩, ⟨t1, t2⟩, m, z⟩ := hs
  have e0 := h 0 (by omega)
  have e1 : cellS s 0 = cellS u 0 := h 1 (by omega)
  have e2 : cellS s 1 = cellS u 1 := h 2 (by omega)
  have e3 := h 3 (by omega)
  have ep : placeAt (cellS s) = placeAt (cellS u) := by unfold placeAt; rw [e1, e2]
  exact ⟨by rw [← e0]; exact ⟨a, b⟩, ⟨by rw [← e1]; exact ⟨c1, c2⟩, by rw [← e2]; exact ⟨c3, c4⟩⟩, by rw [← e3]; exact ⟨t1, t2⟩, by rw [← e0]; exact m, by rw [← e0, ← ep]; exact z⟩
theorem step_fn {f : Nat → Int} {d : Nat} {x : List Int} (hd : d < 4) (h : x ∈ stepL f d) : x.length = 4 ∧ StepOk f (fn x) := by
  obtain ⟨s, rfl, hs⟩ := step_ok hd h
  exact ⟨cl_len _ _, hs.congr fun i hi => (fn_cl s i hi).symm⟩
theorem all_fn {f : Nat → Int} {k : Nat} {x : List Int} (hk : k ≤ 4) (h : x ∈ allL f k) : x.length = 4 ∧ StepOk f (fn x) := by
  obtain ⟨d, hd, hx⟩ := all_mem h
  exact step_fn (by omega) hx
theorem do_congr {f s u : Nat → Int} (h : ∀ i, i < 4 → s i = u i) : doB f s = doB f u ∧ doS f s = doS f u ∧ doO f s = doO f u := by
  have ep : placeAt (cellS s) = placeAt (cellS u) := by
    have e1 : cellS s 0 = cellS u 0 := h 1 (by omega)
    have e2 : cellS s 1 = cellS u 1 := h 2 (by omega)
    unfold placeAt; rw [e1, e2]
  by_cases hs : StepOk f s
  · obtain ⟨a, b, c⟩ := do_yes hs
    obtain ⟨a', b', c'⟩ := do_yes (hs.congr h)
    rw [a, b, c, a', b', c', h 0 (by omega), h 3 (by omega), ep]; exact ⟨rfl, rfl, rfl⟩
  · have hu : ¬ StepOk f u := fun q => hs (q.congr fun i hi => (h i hi).symm)
    obtain ⟨a, b, c⟩ := do_no hs
    obtain ⟨a', b', c'⟩ := do_no hu
    rw [a, b, c, a', b', c']; exact ⟨rfl, rfl, rfl⟩

/-- What StepsOf returns. -/
def stpR (f : Nat → Int) (d : Int) : List (List Int) := if SlideOk f d then stepL f d.toNat else []
theorem stpR_yes {f : Nat → Int} {d : Int} (h : SlideOk f d) : stpR f d = stepL f d.toNat := by simp [stpR, h]
theorem stpR_no {f : Nat → Int} {d : Int} (h : ¬ SlideOk f d) : stpR f d = [] := by simp [stpR, h]
/-- What is kept of the first k of some. -/
def keepN (p : List Int → Bool) (L : List (List Int)) : Nat → List (List Int)
  | 0 => []
  | k + 1 => match L[k]? with
    | none => keepN p L k
    | some x => if p x = true then keepN p L k ++ [x] else keepN p L k
theorem keep_yes {p : List Int → Bool} {L : List (List Int)} {k : Nat} {x : List Int} (h : L[k]? = some x) (hp : p x = true) : keepN p L (k + 1) = keepN p L k ++ [x] := by simp [keepN, h, hp]
theorem keep_no {p : List Int → Bool} {L : List (List Int)} {k : Nat} {x : List Int} (h : L[k]? = some x) (hp : p x = false) : keepN p L (k + 1) = keepN p L k := by simp [keepN, h, hp]
theorem keep_le (p : List Int → Bool) (L : List (List Int)) : ∀ k, (keepN p L k).length ≤ k
  | 0 => Nat.le_refl _
  | k + 1 => by
    have := keep_le p L k
    unfold keepN
    split
    · omega
    · split
      · simp; omega
      · omega
theorem keep_mem {p : List Int → Bool} {L : List (List Int)} {x : List Int} : ∀ {k}, x ∈ keepN p L k → x ∈ L ∧ p x = true
  | 0, h => by cases h
  | k + 1, h => by
    unfold keepN at h
    split at h
    · exact keep_mem h
    · rename_i y hy
      split at h
      · rcases List.mem_append.1 h with h | h
        · exact keep_mem h
        · obtain rfl : x = y := by simpa using h
          exact ⟨List.mem_of_getElem? hy, by assumption⟩
      · exact keep_mem h
/-- What StepBetween returns. -/
def btP (f g : Nat → Int) (x : List Int) : Bool := sameB (doB f (fn x)) g
def btL (f g : Nat → Int) : List (List Int) := keepN (btP f g) (allL f 4) (allL f 4).length
def btR (f g : Nat → Int) : List (List Int) := if Vd f ∧ Vd g then btL f g else []
theorem btR_yes {f g : Nat → Int} (h : Vd f) (k : Vd g) : btR f g = btL f g := by simp [btR, h, k]
theorem btR_no {f g : Nat → Int} (h : ¬ (Vd f ∧ Vd g)) : btR f g = [] := by simp only [btR, h, if_false]
/-- The boards behind the first k steps, as they are put in order, and as they are seen. -/
noncomputable def nextI (f : Nat → Int) (L : List (List Int)) : Nat → List (List Int)
  | 0 => []
  | k + 1 => match L[k]? with
    | none => nextI f L k
    | some x => insL (lt 16) (nextI f L k) (cl 16 (doB f (fn x)))
theorem nextI_step {f : Nat → Int} {L : List (List Int)} {k : Nat} {x : List Int} (h : L[k]? = some x) : nextI f L (k + 1) = insL (lt 16) (nextI f L k) (cl 16 (doB f (fn x))) := by simp only [nextI, h]
theorem nextI_all (f : Nat → Int) (L : List (List Int)) : ∀ k x, x ∈ nextI f L k → x.length = 16
  | 0, x, h => by cases h
  | k + 1, x, h => by
    unfold nextI at h
    split at h
    · exact nextI_all f L k x h
    · rcases (ins_mem _ _ _ _).1 h with h | rfl
      · exact nextI_all f L k x h
      · exact cl_len _ _
theorem nextI_le (f : Nat → Int) (L : List (List Int)) : ∀ k, (nextI f L k).length ≤ k
  | 0 => Nat.le_refl _
  | k + 1 => by
    have := nextI_le f L k
    unfold nextI
    split
    · omega
    · rw [ins_len]; split <;> omega
theorem nextI_ss (f : Nat → Int) (L : List (List Int)) : ∀ k, SS (lt 16) (nextI f L k)
  | 0 => List.Pairwise.nil
  | k + 1 => by
    have ih := nextI_ss f L k
    unfold nextI
    split
    · exact ih
    · exact ins_ss (lt 16) (fun x y z h1 h2 => lt_trans h1 h2) _ _ (fun x hx h1 h2 => lt_total (nextI_all f L k x hx) (cl_len _ _) h1 h2) ih
end Go.Proofs.Ytfjpdopljmilpaa.Plain
