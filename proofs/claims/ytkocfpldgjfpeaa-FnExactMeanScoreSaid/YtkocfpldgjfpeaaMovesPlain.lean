/-
  Plain facts on the greatest of values over a list of moves. No program stands in this text.
-/
import Derived.Test.YtkocfpldgjfpeaaMeanSteps
set_option linter.unusedSimpArgs false
namespace Go.Proofs.Ytkocfpldgjfpeaa.Plain
def bmS (V : Nat → Fc) (S : Bm) (x : Int) : Bm := if S.ok = false ∨ ltF S.v (V x.toNat) = true then ⟨x.toNat, V x.toNat, true⟩ else S
def bmL (V : Nat → Fc) (L : List Int) : Bm := L.foldl (bmS V) bm0
def mxS (V : Nat → Fc) (b : Fc) (x : Int) : Fc := if ltF b (V x.toNat) = true then V x.toNat else b
def mxL (V : Nat → Fc) (L : List Int) : Fc := L.foldl (mxS V) (0, 1)
theorem bmL_snoc (V : Nat → Fc) (L : List Int) (x : Int) : bmL V (L ++ [x]) = bmS V (bmL V L) x := by simp [bmL, List.foldl_append]
theorem mxL_snoc (V : Nat → Fc) (L : List Int) (x : Int) : mxL V (L ++ [x]) = mxS V (mxL V L) x := by simp [mxL, List.foldl_append]
theorem bmL_mov (f : Nat → Int) (V : Nat → Fc) : ∀ k, bmL V (movL f k) = bmF f V k
  | 0 => rfl
  | k + 1 => by
    have ih := bmL_mov f V k
    cases hm : isMv f k with
    | false => rw [mov_no hm, bm_still hm]; exact ih
    | true =>
      rw [mov_yes hm, bmL_snoc, ih]
      have e : ((k : Int)).toNat = k := by omega
      unfold bmS
      rw [e]
      by_cases h : (bmF f V k).ok = false ∨ ltF (bmF f V k).v (V k) = true
      · rw [if_pos h, bm_yes hm h]
      · rw [if_neg h, bm_no hm h]
theorem mxL_mov (f : Nat → Int) (V : Nat → Fc) : ∀ k, mxL V (movL f k) = mxF f V k
  | 0 => rfl
  | k + 1 => by
    have ih := mxL_mov f V k
    have e : ((k : Int)).toNat = k := by omega
    cases hm : isMv f k with
    | false => rw [mov_no hm]; simp [mxF, hm, ih]
    | true =>
      rw [mov_yes hm, mxL_snoc, ih]
      show mxS V (mxF f V k) (k : Int) = if isMv f k = true ∧ ltF (mxF f V k) (V k) = true then V k else mxF f V k
      unfold mxS
      rw [e]
      simp [hm]
theorem mov_is (f : Nat → Int) : ∀ k x, x ∈ movL f k → ∃ d : Nat, d < k ∧ x = (d : Int) ∧ isMv f d = true
  | 0, x, h => by cases h
  | k + 1, x, h => by
    cases hm : isMv f k with
    | false =>
      rw [mov_no hm] at h
      obtain ⟨d, a, b, c⟩ := mov_is f k x h
      exact ⟨d, by omega, b, c⟩
    | true =>
      rw [mov_yes hm] at h
      rcases List.mem_append.1 h with h | h
      · obtain ⟨d, a, b, c⟩ := mov_is f k x h
        exact ⟨d, by omega, b, c⟩
      · obtain rfl := List.mem_singleton.1 h
        exact ⟨k, by omega, rfl, hm⟩
theorem mov_at {f : Nat → Int} {i : Nat} (h : i < (movL f 4).length) : ∃ d : Nat, d < 4 ∧ (movL f 4)[i]? = some (d : Int) ∧ isMv f d = true ∧ (movL f 4).getD i 0 = (d : Int) ∧ (movL f 4).take (i + 1) = (movL f 4).take i ++ [(d : Int)] := by
  obtain ⟨d, hd, e, hm⟩ := mov_is f 4 _ (List.getElem_mem h)
  refine ⟨d, hd, by rw [List.getElem?_eq_getElem h, e], hm, ?_, ?_⟩
  · rw [List.getD_eq_getElem?_getD, List.getElem?_eq_getElem h, e]; rfl
  · rw [List.take_succ_eq_append_getElem h, e]
/-- The greatest so far is one of the values, or none. -/
theorem mxL_all {f : Nat → Int} {V : Nat → Fc} {P : Fc → Prop} (h0 : P (0, 1)) (h : ∀ d, d < 4 → isMv f d = true → P (V d)) (i : Nat) : P (mxL V ((movL f 4).take i)) := by
  have key : ∀ L : List Int, (∀ x, x ∈ L → ∃ d : Nat, d < 4 ∧ x = (d : Int) ∧ isMv f d = true) → P (mxL V L) := fun L => by
    refine list_snoc (fun L => (∀ x, x ∈ L → ∃ d : Nat, d < 4 ∧ x = (d : Int) ∧ isMv f d = true) → P (mxL V L)) (fun _ => h0) (fun L x ih hL => ?_) L
    rw [mxL_snoc]
    unfold mxS
    split
    · obtain ⟨d, hd, e, hm⟩ := hL x (by simp)
      have e2 : x.toNat = d := by omega
      rw [e2]; exact h d hd hm
    · exact ih fun y hy => hL y (by simp [hy])
  exact key _ fun x hx => mov_is f 4 x (List.mem_of_mem_take hx)
theorem mxL_end {f : Nat → Int} {V : Nat → Fc} (h : ∀ d, d < 4 → isMv f d = true → FcOk (V d)) : mxL V (movL f 4) = (bmF f V 4).v := by rw [mxL_mov, mx_bm 4 h]
/-- With one move left the chance is 1, or 0 where there is none. -/
theorem kp_first {f : Nat → Int} (hV : Vd f) : KpF 1 f = if (movL f 4).length = 0 then (0, 1) else (1, 1) := by
  rw [kp_succ]
  split
  · rename_i h
    have hok : (bmF f (kbV 0 f) 4).ok = false := by rw [bm_ok_iff]; simp [h]
    rw [← bmL_mov]
    rw [List.eq_nil_of_length_eq_zero h]; rfl
  · rename_i h
    have hok : (bmF f (kbV 0 f) 4).ok = true := by rw [bm_ok_iff]; simp [h]
    obtain ⟨_, _, hm, hv, _⟩ := (bm_first 4 fun d _ hm => (kb_ok (n := 0) (by omega) hV hm).1).2 hok
    rw [← hv, kp_one hV hm]
theorem mov_sorted (f : Nat → Int) : ∀ k, (movL f k).Pairwise (· < ·)
  | 0 => List.Pairwise.nil
  | k + 1 => by
    have ih := mov_sorted f k
    cases hm : isMv f k with
    | false => rw [mov_no hm]; exact ih
    | true =>
      rw [mov_yes hm, List.pairwise_append]
      refine ⟨ih, List.pairwise_singleton _ _, fun x hx y hy => ?_⟩
      obtain ⟨d, hd, e, _⟩ := mov_is f k x hx
      obtain rfl := List.mem_singleton.1 hy
      omega
theorem mov_has {f : Nat → Int} {d : Nat} : ∀ {k}, d < k → isMv f d = true → (d : Int) ∈ movL f k
  | 0, h, _ => by omega
  | k + 1, h, hm => by
    by_cases e : d = k
    · subst e; rw [mov_yes hm]; simp
    · have ih := mov_has (k := k) (by omega) hm
      cases hk : isMv f k with
      | false => rw [mov_no hk]; exact ih
      | true => rw [mov_yes hk]; exact List.mem_append.2 (.inl ih)
/-- The first move with the greatest value is the direction of the greatest one. -/
theorem well_at {f : Nat → Int} {V : Nat → Fc} {k d : Nat} (hV : ∀ d, d < 4 → isMv f d = true → FcOk (V d)) (hk : (movL f 4)[k]? = some (d : Int)) (hm : isMv f d = true) (hv : V d = (bmF f V 4).v)
    (hn : ∀ (j e : Nat), j < k → (movL f 4)[j]? = some (e : Int) → V e ≠ (bmF f V 4).v) : (bmF f V 4).d = d ∧ (bmF f V 4).ok = true := by
  have hkl := (List.getElem?_eq_some_iff.1 hk).1
  have hok : (bmF f V 4).ok = true := by
    rw [bm_ok_iff]; simp only [decide_eq_true_eq]; omega
  obtain ⟨_, hd4, hm', hv', hf⟩ := (bm_first 4 hV).2 hok
  refine ⟨?_, hok⟩
  rcases Nat.lt_trichotomy (bmF f V 4).d d with l | l | l
  · exfalso
    obtain ⟨j, hj⟩ := List.getElem?_of_mem (mov_has hd4 hm')
    have hjl := (List.getElem?_eq_some_iff.1 hj).1
    have hs := List.pairwise_iff_getElem.1 (mov_sorted f 4)
    have e1 := (List.getElem?_eq_some_iff.1 hj).2
    have e2 := (List.getElem?_eq_some_iff.1 hk).2
    rcases Nat.lt_trichotomy j k with q | q | q
    · exact hn j _ q hj hv'
    · subst q; rw [e1] at e2; omega
    · have := hs k j hkl hjl q
      rw [e1, e2] at this; omega
  · exact l
  · exfalso
    have := hf d l hm
    rw [hv, ltF_irrefl] at this
    cases this
theorem well_no {f : Nat → Int} {V : Nat → Fc} (hV : ∀ d, d < 4 → isMv f d = true → FcOk (V d))
    (hn : ∀ (j e : Nat), j < (movL f 4).length → (movL f 4)[j]? = some (e : Int) → V e ≠ (bmF f V 4).v) : (bmF f V 4).d = 0 ∧ (bmF f V 4).ok = false := by
  by_cases h : (movL f 4).length = 0
  · have e : bmF f V 4 = bm0 := by rw [← bmL_mov, List.eq_nil_of_length_eq_zero h]; rfl
    rw [e]; exact ⟨rfl, rfl⟩
  · exfalso
    have hok : (bmF f V 4).ok = true := by rw [bm_ok_iff]; simp [h]
    obtain ⟨_, hd4, hm', hv', _⟩ := (bm_first 4 hV).2 hok
    obtain ⟨j, hj⟩ := List.getElem?_of_mem (mov_has hd4 hm')
    exact hn j _ (List.getElem?_eq_some_iff.1 hj).1 hj hv'
end Go.Proofs.Ytkocfpldgjfpeaa.Plain
