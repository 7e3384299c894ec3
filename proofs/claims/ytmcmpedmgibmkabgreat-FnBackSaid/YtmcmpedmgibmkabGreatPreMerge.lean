/-
  Plain facts on what comes out of a merger when a row slides, and on the cells of a board that must or can have come out of one. No program stands in this text.
-/
import Derived.Test.YtmcmpedmgibmkabGreatPrePlain
namespace Go.Proofs.YtmcmpedmgibmkabGreat.Plain
def updB (b : Nat → Bool) (i : Nat) (v : Bool) : Nat → Bool := fun j => if j = i then v else b j
theorem updB_same (b : Nat → Bool) (i : Nat) (v : Bool) : updB b i v i = v := by simp [updB]
theorem updB_other (b : Nat → Bool) {i j : Nat} (v : Bool) (h : j ≠ i) : updB b i v j = b j := by simp [updB, h]
/-- What has merged while a row slides: the places, how many tiles, and the tile with which the next one may merge. -/
structure Mrg where
  b : Nat → Bool
  n : Nat
  la : Int
def mrStep (s : Mrg) (t : Int) : Mrg := if t = 0 then s else if 0 < s.n ∧ s.la = t ∧ t < 17 ∧ s.b (s.n - 1) = false then ⟨updB s.b (s.n - 1) true, s.n, 0⟩ else ⟨s.b, s.n + 1, t⟩
def mrS (f : Nat → Int) : Nat → Mrg
  | 0 => ⟨fun _ => false, 0, 0⟩
  | k + 1 => mrStep (mrS f k) (f k)
theorem mr_zero {f : Nat → Int} {k : Nat} (h : f k = 0) : mrS f (k + 1) = mrS f k := by rw [mrS, mrStep, if_pos h]
theorem mr_two {f : Nat → Int} {k : Nat} (h0 : f k ≠ 0) (h : 0 < (mrS f k).n ∧ (mrS f k).la = f k ∧ f k < 17 ∧ (mrS f k).b ((mrS f k).n - 1) = false) : mrS f (k + 1) = ⟨updB (mrS f k).b ((mrS f k).n - 1) true, (mrS f k).n, 0⟩ := by rw [mrS, mrStep, if_neg h0, if_pos h]
theorem mr_one {f : Nat → Int} {k : Nat} (h0 : f k ≠ 0) (h : ¬ (0 < (mrS f k).n ∧ (mrS f k).la = f k ∧ f k < 17 ∧ (mrS f k).b ((mrS f k).n - 1) = false)) : mrS f (k + 1) = ⟨(mrS f k).b, (mrS f k).n + 1, f k⟩ := by rw [mrS, mrStep, if_neg h0, if_neg h]
theorem mr_le (f : Nat → Int) : ∀ k, (mrS f k).n ≤ k
  | 0 => Nat.le_refl _
  | k + 1 => by have := mr_le f k; rw [mrS, mrStep]; split <;> (try split) <;> (try simp only []) <;> omega
theorem mr_congr {f g : Nat → Int} : ∀ k, (∀ i, i < k → f i = g i) → mrS f k = mrS g k
  | 0, _ => rfl
  | k + 1, h => by rw [mrS, mrS, mr_congr k fun i hi => h i (by omega), h k (by omega)]
/-- How many tiles the first places have come of. -/
def stN (b : Nat → Bool) : Nat → Nat
  | 0 => 0
  | p + 1 => stN b p + (if b p then 2 else 1)
theorem stN_congr {b c : Nat → Bool} : ∀ p, (∀ q, q < p → b q = c q) → stN b p = stN c p
  | 0, _ => rfl
  | p + 1, h => by rw [stN, stN, stN_congr p fun q hq => h q (by omega), h p (by omega)]
theorem stN_ge (b : Nat → Bool) : ∀ p, p ≤ stN b p
  | 0 => Nat.le_refl _
  | p + 1 => by have := stN_ge b p; rw [stN]; split <;> omega
theorem stN_mono (b : Nat → Bool) : ∀ {p q : Nat}, p < q → stN b p < stN b q
  | p, 0, h => by omega
  | p, q + 1, h => by
    rw [stN]
    rcases (by omega : p < q ∨ p = q) with l | rfl
    · have := stN_mono b l; split <;> omega
    · split <;> omega
theorem stN_one {b : Nat → Bool} : ∀ {p : Nat}, stN b p = p → ∀ q, q < p → b q = false
  | 0, _, q, hq => by omega
  | p + 1, h, q, hq => by
    rw [stN] at h
    have := stN_ge b p
    rcases hb : b p with _ | _
    · rw [hb] at h
      simp at h
      rcases (by omega : q < p ∨ q = p) with l | rfl
      · exact stN_one h q l
      · exact hb
    · rw [hb] at h; simp at h; omega
/-- What holds at every step. -/
structure MrOk (f : Nat → Int) (k : Nat) : Prop where
  n : (mrS f k).n = (slid f k).n
  la : (mrS f k).la = (slid f k).op
  len : stN (mrS f k).b (slid f k).n = (cmpr f k).length
  no : ∀ p, p < (slid f k).n → (mrS f k).b p = false → (cmpr f k)[stN (mrS f k).b p]? = some ((slid f k).row p)
  yes : ∀ p, p < (slid f k).n → (mrS f k).b p = true → (cmpr f k)[stN (mrS f k).b p]? = some ((slid f k).row p - 1)
  last : (slid f k).op ≠ 0 → (mrS f k).b ((slid f k).n - 1) = false
  rest : ∀ j, (slid f k).n ≤ j → (mrS f k).b j = false
theorem mr_ok {f : Nat → Int} (hf : VdRow f) : ∀ k, k ≤ 4 → MrOk f k
  | 0, _ => ⟨rfl, rfl, rfl, fun p hp => by simp [slid, slid0] at hp, fun p hp => by simp [slid, slid0] at hp, fun h => absurd rfl h, fun _ _ => rfl⟩
  | k + 1, hk => by
    obtain ⟨a1, a2, a3, a4, a5, a6, a7⟩ := mr_ok hf k (by omega)
    have ho := slid_ok hf k (by omega)
    have hs : slid f (k + 1) = slidStep (slid f k) (f k) := rfl
    unfold slidStep at hs
    by_cases h0 : f k = 0
    · rw [if_pos h0] at hs
      have hc : cmpr f (k + 1) = cmpr f k := by rw [cmpr, if_pos h0]
      constructor <;> rw [hs, mr_zero h0] <;> (try rw [hc]) <;> assumption
    · rw [if_neg h0] at hs
      have hc : cmpr f (k + 1) = cmpr f k ++ [f k] := by rw [cmpr, if_neg h0]
      by_cases hm : f k = (slid f k).op ∧ f k < 17
      · rw [if_pos hm] at hs
        have hop : (slid f k).op ≠ 0 := by rw [← hm.1]; exact h0
        obtain ⟨hn, hl⟩ := ho.last hop
        have hb := a6 hop
        have e := mr_two h0 ⟨by rw [a1]; omega, by rw [a2]; exact hm.1.symm, hm.2, by rw [a1]; exact hb⟩
        rw [a1] at e
        obtain ⟨m, hmn⟩ : ∃ m, (slid f k).n = m + 1 := ⟨(slid f k).n - 1, by omega⟩
        have hst : ∀ p, p ≤ m → stN (updB (mrS f k).b m true) p = stN (mrS f k).b p := fun p hp => stN_congr p fun q hq => updB_other _ _ (by omega)
        rw [hmn] at a3 a4 a5 hb hl
        simp only [Nat.add_sub_cancel] at hb hl
        have hlen : stN (mrS f k).b m + 1 = (cmpr f k).length := by rw [← a3, stN, hb]; rfl
        have hlt : ∀ p, p ≤ m → stN (mrS f k).b p < (cmpr f k).length := fun p hp => by
          rcases (by omega : p < m ∨ p = m) with l | rfl
          · have := stN_mono (mrS f k).b l; omega
          · omega
        constructor <;> rw [hs, e] <;> (try rw [hc]) <;> simp only [hmn, Nat.add_sub_cancel]
        · rw [stN, hst m (Nat.le_refl m), updB_same, List.length_append, List.length_singleton]; simp; omega
        · intro p hp hq
          rcases (by omega : p < m ∨ p = m) with l | rfl
          · rw [updB_other _ _ (by omega)] at hq
            rw [hst p (by omega), List.getElem?_append_left (hlt p (by omega)), upd_other _ _ (by omega)]
            exact a4 p (by omega) hq
          · rw [updB_same] at hq; cases hq
        · intro p hp hq
          rcases (by omega : p < m ∨ p = m) with l | rfl
          · rw [updB_other _ _ (by omega)] at hq
            rw [hst p (by omega), List.getElem?_append_left (hlt p (by omega)), upd_other _ _ (by omega)]
            exact a5 p (by omega) hq
          · rw [hst p (Nat.le_refl p), List.getElem?_append_left (hlt p (Nat.le_refl p)), upd_same, a4 p (by omega) hb, hl, ← hm.1]
            congr 1; omega
        · intro h; exact absurd rfl h
        · intro j hj; rw [updB_other _ _ (by omega)]; exact a7 j (by omega)
      · rw [if_neg hm] at hs
        have e := mr_one h0 (f := f) (k := k) (fun q => hm ⟨by rw [← a2]; exact q.2.1.symm, q.2.2.1⟩)
        rw [a1] at e
        have hbn := a7 (slid f k).n (Nat.le_refl _)
        have hlt : ∀ p, p < (slid f k).n → stN (mrS f k).b p < (cmpr f k).length := fun p hp => by rw [← a3]; exact stN_mono _ hp
        constructor <;> rw [hs, e] <;> (try rw [hc]) <;> simp only [Nat.add_sub_cancel]
        · rw [stN, hbn, List.length_append, a3]; rfl
        · intro p hp hq
          rcases (by omega : p < (slid f k).n ∨ p = (slid f k).n) with l | rfl
          · rw [List.getElem?_append_left (hlt p l), upd_other _ _ (by omega)]; exact a4 p l hq
          · rw [a3, upd_same]; simp
        · intro p hp hq
          rcases (by omega : p < (slid f k).n ∨ p = (slid f k).n) with l | rfl
          · rw [List.getElem?_append_left (hlt p l), upd_other _ _ (by omega)]; exact a5 p l hq
          · rw [hbn] at hq; cases hq
        · intro _; exact hbn
        · intro j hj; exact a7 j (by omega)
/-- The tiles side by side are the list of the tiles. -/
theorem fl_cmpr (f : Nat → Int) : ∀ k, (fl f k).2 = (cmpr f k).length ∧ ∀ j x, (cmpr f k)[j]? = some x → (fl f k).1 j = x
  | 0 => ⟨rfl, fun j x h => by simp [cmpr] at h⟩
  | k + 1 => by
    obtain ⟨h1, h2⟩ := fl_cmpr f k
    by_cases h0 : f k = 0
    · rw [fl_zero h0, cmpr, if_pos h0]; exact ⟨h1, h2⟩
    · rw [fl_tile h0, cmpr, if_neg h0]
      refine ⟨by simp [h1], fun j x hx => ?_⟩
      rcases Nat.lt_trichotomy j (cmpr f k).length with l | l | l
      · rw [List.getElem?_append_left l] at hx
        show upd _ _ _ j = x
        rw [upd_other _ _ (by omega)]; exact h2 j x hx
      · subst l; simp at hx
        show upd _ _ _ _ = x
        rw [← h1, upd_same]; exact hx
      · rw [List.getElem?_eq_none (by simp; omega)] at hx; cases hx
/-- Which places of a row come out of a merger. -/
def mgB (f : Nat → Int) : Nat → Bool := (mrS f 4).b
theorem mgB_congr {f g : Nat → Int} (h : ∀ i, i < 4 → f i = g i) : mgB f = mgB g := by unfold mgB; rw [mr_congr 4 h]
/-- At a place with a tile, of a row that slides to r: the tile there, and where the next one begins. -/
theorem mg_at {f r : Nat → Int} (hf : VdRow f) (hr : ∀ i, i < 4 → (slid f 4).row i = r i) {p : Nat} (hp : p < 4) (h0 : r p ≠ 0) :
    stN (mgB f) p < 4 ∧ (mgB f p = false → (fl f 4).1 (stN (mgB f) p) = r p) ∧ (mgB f p = true → (fl f 4).1 (stN (mgB f) p) = r p - 1) := by
  have ho := slid_ok hf 4 (Nat.le_refl _)
  have hm := mr_ok hf 4 (Nat.le_refl _)
  have hpn : p < (slid f 4).n := by
    rcases Nat.lt_or_ge p (slid f 4).n with h | h
    · exact h
    · have := ho.rest p h; rw [hr p hp] at this; exact absurd this h0
  have hl := cmpr_le f 4
  have h1 : stN (mgB f) p < (cmpr f 4).length := by rw [← hm.len]; exact stN_mono _ hpn
  refine ⟨by omega, fun hb => ?_, fun hb => ?_⟩
  · rw [← hr p hp]; exact (fl_cmpr f 4).2 _ _ (hm.no p hpn hb)
  · rw [← hr p hp]; exact (fl_cmpr f 4).2 _ _ (hm.yes p hpn hb)
/-- From a place without a tile on, nothing has merged. -/
theorem mg_rest {f r : Nat → Int} (hf : VdRow f) (hr : ∀ i, i < 4 → (slid f 4).row i = r i) {p : Nat} (hp : p < 4) (h0 : r p = 0) : ∀ j, p ≤ j → mgB f j = false := fun j hj => by
  have ho := slid_ok hf 4 (Nat.le_refl _)
  have hm := mr_ok hf 4 (Nat.le_refl _)
  refine hm.rest j ?_
  rcases Nat.lt_or_ge p (slid f 4).n with h | h
  · have := ho.full p h; rw [hr p hp] at this; exact absurd h0 this
  · omega
/-- A row that slides to itself has no mergers. -/
theorem mg_still {f : Nat → Int} (hf : VdRow f) (hr : ∀ i, i < 4 → (slid f 4).row i = f i) (p : Nat) : mgB f p = false := by
  have ho := slid_ok hf 4 (Nat.le_refl _)
  have hm := mr_ok hf 4 (Nat.le_refl _)
  rcases Nat.lt_or_ge p (slid f 4).n with h | h
  · refine stN_one (p := (slid f 4).n) ?_ p h
    have e : cmpr f 4 = cl (slid f 4).n (slid f 4).row := by
      rw [← cmpr_congr 4 hr, cmpr_stop (m := (slid f 4).n) (fun j hj _ => ho.rest j hj) 4 ho.n_le (Nat.le_refl _), cmpr_pos _ fun j hj => ho.full j hj]
    have := hm.len
    rw [e, cl_len] at this
    exact this
  · exact hm.rest p h
/-! The marks of the places of a line, by the rows before it. -/
def anM (R : List (List Int)) (k : Nat) : Bool := R.any fun x => mgB (fn x) k
def alM (R : List (List Int)) (k : Nat) : Bool := R.all fun x => mgB (fn x) k
/-- How many of the first n rows have a merger at a place. -/
def yeN (R : List (List Int)) (k : Nat) : Nat → Nat
  | 0 => 0
  | n + 1 => if mgB (fn (R.getD n [])) k then yeN R k n + 1 else yeN R k n
theorem ye_step {R : List (List Int)} {k n : Nat} {x : List Int} (h : R[n]? = some x) : yeN R k (n + 1) = if mgB (fn x) k then yeN R k n + 1 else yeN R k n := by
  rw [yeN, List.getD_eq_getElem?_getD, h]; rfl
theorem ye_le (R : List (List Int)) (k : Nat) : ∀ n, yeN R k n ≤ n
  | 0 => Nat.le_refl _
  | n + 1 => by have := ye_le R k n; unfold yeN; split <;> omega
theorem ye_take (R : List (List Int)) (k : Nat) : ∀ n, n ≤ R.length → (decide (0 < yeN R k n) = anM (R.take n) k ∧ decide (yeN R k n = n) = alM (R.take n) k)
  | 0, _ => by simp [yeN, anM, alM]
  | n + 1, hn => by
    obtain ⟨x, hx⟩ : ∃ x, R[n]? = some x := ⟨R[n]'(by omega), List.getElem?_eq_getElem _⟩
    obtain ⟨h1, h2⟩ := ye_take R k n (by omega)
    have hle := ye_le R k n
    unfold anM alM at *
    rw [ye_step hx, List.take_add_one, hx, List.any_append, List.all_append, ← h1, ← h2]
    cases hb : mgB (fn x) k with
    | false =>
      simp [hb]
      omega
    | true => simp [hb]
theorem ye_all (R : List (List Int)) (k : Nat) : decide (0 < yeN R k R.length) = anM R k ∧ decide (yeN R k R.length = R.length) = alM R k := by
  have := ye_take R k R.length (Nat.le_refl _); rw [List.take_length] at this; exact this
/-- The mark of a cell: a place of a line. -/
noncomputable def mkC (some : Bool) (f : Nat → Int) (d : Nat) (j : Nat) : Bool := if some then anM (lnR f d (lineOf d j)) (placeOf d j) else alM (lnR f d (lineOf d j)) (placeOf d j)
theorem still_line {f : Nat → Int} {d : Nat} (hm : isMv f d = false) {i : Nat} (hi : i < 4) : ∀ k, k < 4 → (slid (lineF f d i) 4).row k = lineF f d i k := fun k hk => by
  have h1 : sameB (slideB f d) f = true := by unfold isMv at hm; simpa using hm
  have h2 := sameB_iff.1 h1 (pos d i k) (pos_lt hi hk)
  unfold slideB at h2
  rw [lineOf_pos hi hk, placeOf_pos hi hk] at h2
  exact h2
/-- In a board that slides to itself, not all rows before a line have a merger at a place. -/
theorem still_all {f : Nat → Int} {d : Nat} (h : Vd f) (hm : isMv f d = false) {i : Nat} (hi : i < 4) (k : Nat) : alM (lnR f d i) k = false := by
  have hv := lineF_vd h d hi
  have hst := still_line hm hi
  have hin : cl 4 (lineF f d i) ∈ lnR f d i := (rbR_bef hv _).2 ⟨cl_len _ _, fun j hj => by rw [fn_cl _ j hj]; exact hv j hj, fun j hj => by rw [slid_congr (g := lineF f d i) 4 (fn_cl _)]; exact hst j hj⟩
  unfold alM
  rw [List.all_eq_false]
  refine ⟨_, hin, ?_⟩
  rw [mgB_congr (g := lineF f d i) (fn_cl _), mg_still hv hst]
  simp
/-- The reference's mark: of n rows, yes have a merger. -/
theorem mk_can (f : Nat → Int) (d : Nat) {i k : Nat} (hi : i < 4) (hk : k < 4) : decide (0 < yeN (lnR f d i) k (lnR f d i).length) = mkC true f d (pos d i k) := by
  rw [(ye_all _ _).1, mkC, if_pos rfl, lineOf_pos hi hk, placeOf_pos hi hk]
theorem mk_must {f : Nat → Int} {d : Nat} (h : Vd f) {i k : Nat} (hi : i < 4) (hk : k < 4) : (decide (yeN (lnR f d i) k (lnR f d i).length = (lnR f d i).length) && isMv f d) = mkC false f d (pos d i k) := by
  rw [(ye_all _ _).2, mkC, if_neg (by simp), lineOf_pos hi hk, placeOf_pos hi hk]
  cases hm : isMv f d with
  | true => simp
  | false => rw [still_all h hm hi]; rfl
/-- What MustMerge and CanMerge return. -/
noncomputable def mmL (some : Bool) (f : Nat → Int) (d : Int) : List Int := if MbOk f d then ceL (mkC some f d.toNat) 16 else []
noncomputable def mmN (some : Bool) (f : Nat → Int) (d : Int) : Nat := if MbOk f d then ceN (mkC some f d.toNat) 16 else 0
theorem mm_yes (some : Bool) {f : Nat → Int} {d : Int} (h : MbOk f d) : mmL some f d = ceL (mkC some f d.toNat) 16 ∧ mmN some f d = ceN (mkC some f d.toNat) 16 := ⟨by simp [mmL, h], by simp [mmN, h]⟩
theorem mm_no (some : Bool) {f : Nat → Int} {d : Int} (h : ¬ MbOk f d) : mmL some f d = [] ∧ mmN some f d = 0 := ⟨by simp [mmL, h], by simp [mmN, h]⟩
end Go.Proofs.YtmcmpedmgibmkabGreat.Plain
