/-
  Plain facts on the list of all boards before a board: the choices of a row for each line, and how they are put in order. No program stands in this text.
-/
import Derived.Test.YtmcmpedmgibmkabGreatPrePlain
import Derived.Test.YtmcmpedmgibmkabGreatPlainA
namespace Go.Proofs.YtmcmpedmgibmkabGreat.Plain
theorem fm_congr {α β : Type} {f g : α → List β} : ∀ X : List α, (∀ x, x ∈ X → f x = g x) → X.flatMap f = X.flatMap g
  | [], _ => rfl
  | a :: X, h => by rw [List.flatMap_cons, List.flatMap_cons, h a (by simp), fm_congr X fun x hx => h x (by simp [hx])]
theorem nodup_map {α β : Type} {f : α → β} {L : List α} (h : L.Nodup) (hi : ∀ x, x ∈ L → ∀ y, y ∈ L → f x = f y → x = y) : (L.map f).Nodup := by
  refine List.pairwise_map.2 (List.Pairwise.imp_of_mem (fun {a b} ha hb hab e => hab (hi a ha b hb e)) h)
/-- Each list, by each row. -/
def gAll (g : List Int → List Int → List Int) (X R : List (List Int)) : List (List Int) := X.flatMap fun x => R.map (g x)
/-- Those of the first n lists. -/
def gP (g : List Int → List Int → List Int) (X R : List (List Int)) (n : Nat) : List (List Int) := gAll g (X.take n) R
theorem gP_zero (g : List Int → List Int → List Int) (X R : List (List Int)) : gP g X R 0 = [] := rfl
theorem gP_all (g : List Int → List Int → List Int) (X R : List (List Int)) : gP g X R X.length = gAll g X R := by unfold gP; rw [List.take_length]
/-- Some lists, and one by the first k rows. -/
def gQ (g : List Int → List Int → List Int) (A : List (List Int)) (x : List Int) (R : List (List Int)) (k : Nat) : List (List Int) := A ++ (R.take k).map (g x)
theorem gQ_zero (g : List Int → List Int → List Int) (A : List (List Int)) (x : List Int) (R : List (List Int)) : gQ g A x R 0 = A := by simp [gQ]
theorem gQ_step {g : List Int → List Int → List Int} {A : List (List Int)} {x : List Int} {R : List (List Int)} {k : Nat} {r : List Int} (h : R[k]? = some r) : gQ g A x R (k + 1) = gQ g A x R k ++ [g x r] := by
  unfold gQ; rw [List.take_add_one, h, List.map_append, List.append_assoc]; rfl
theorem gQ_all {g : List Int → List Int → List Int} {X R : List (List Int)} {n : Nat} {x : List Int} (h : X[n]? = some x) : gQ g (gP g X R n) x R R.length = gP g X R (n + 1) := by
  unfold gQ gP gAll; rw [List.take_length, List.take_add_one, h, List.flatMap_append]; simp
theorem gP_len (g : List Int → List Int → List Int) (X R : List (List Int)) (n : Nat) : (gP g X R n).length ≤ n * R.length := by
  unfold gP gAll
  rw [List.length_flatMap]
  have : ∀ Y : List (List Int), (Y.map fun x => (R.map (g x)).length).sum = Y.length * R.length := fun Y => by
    induction Y with
    | nil => simp
    | cons y Y ih => rw [List.map_cons, List.sum_cons, ih, List.length_map, List.length_cons, Nat.add_mul]; omega
  rw [this]
  exact Nat.mul_le_mul_right _ (List.length_take_le n X)
theorem gAll_len (g : List Int → List Int → List Int) (X R : List (List Int)) : (gAll g X R).length = X.length * R.length := by
  unfold gAll
  rw [List.length_flatMap]
  induction X with
  | nil => simp
  | cons y Y ih => rw [List.map_cons, List.sum_cons, ih, List.length_map, List.length_cons, Nat.add_mul]; omega
theorem gQ_len (g : List Int → List Int → List Int) (A : List (List Int)) (x : List Int) (R : List (List Int)) (k : Nat) : (gQ g A x R k).length ≤ A.length + k := by
  unfold gQ; rw [List.length_append, List.length_map]; have := List.length_take_le k R; omega
/-- Another row in a line of a board. -/
def withF (d i : Nat) (x r : Nat → Int) : Nat → Int := fun j => if lineOf d j = i then r (placeOf d j) else x j
def gS (d i : Nat) (x r : List Int) : List Int := cl 16 (withF d i (fn x) (fn r))
def putV (i : Nat) (x r : Nat → Int) : Nat → Int := fun j => if j / 4 = i then r (j % 4) else x j
def gV (i : Nat) (x r : List Int) : List Int := cl 16 (putV i (fn x) (fn r))
noncomputable def spS (f : Nat → Int) (d : Nat) : Nat → List (List Int)
  | 0 => [cl 16 f]
  | i + 1 => gAll (gS d i) (spS f d i) (lnR f d i)
noncomputable def spV (f : Nat → Int) (d : Nat) : Nat → List (List Int)
  | 0 => [cl 16 fun _ => 0]
  | i + 1 => gAll (gV i) (spV f d i) (lnR f d i)
theorem spS_len (f : Nat → Int) (d : Nat) : ∀ i, (spS f d i).length = cntP f d i
  | 0 => rfl
  | i + 1 => by rw [spS, gAll_len, spS_len f d i, cntP]
theorem spV_len (f : Nat → Int) (d : Nat) : ∀ i, (spV f d i).length = cntP f d i
  | 0 => rfl
  | i + 1 => by rw [spV, gAll_len, spV_len f d i, cntP]
theorem gAll_all {g : List Int → List Int → List Int} (h : ∀ x r, (g x r).length = 16) (X R : List (List Int)) : ∀ y, y ∈ gAll g X R → y.length = 16 := fun y hy => by
  obtain ⟨x, _, hy⟩ := List.mem_flatMap.1 hy
  obtain ⟨r, _, rfl⟩ := List.mem_map.1 hy
  exact h x r
theorem gQ_sub {g : List Int → List Int → List Int} (h : ∀ x r, (g x r).length = 16) {A : List (List Int)} (hA : ∀ y, y ∈ A → y.length = 16) (x : List Int) (R : List (List Int)) (k : Nat) : ∀ y, y ∈ gQ g A x R k → y.length = 16 := fun y hy => by
  rcases List.mem_append.1 hy with q | q
  · exact hA y q
  · obtain ⟨r, _, rfl⟩ := List.mem_map.1 q; exact h x r
theorem gS_len (d i : Nat) (x r : List Int) : (gS d i x r).length = 16 := cl_len _ _
theorem gV_len (i : Nat) (x r : List Int) : (gV i x r).length = 16 := cl_len _ _
theorem spS_all (f : Nat → Int) (d : Nat) : ∀ i, ∀ y, y ∈ spS f d i → y.length = 16
  | 0 => fun y hy => by rw [spS, List.mem_singleton] at hy; rw [hy, cl_len]
  | i + 1 => gAll_all (gS_len d i) _ _
theorem spV_all (f : Nat → Int) (d : Nat) : ∀ i, ∀ y, y ∈ spV f d i → y.length = 16
  | 0 => fun y hy => by rw [spV, List.mem_singleton] at hy; rw [hy, cl_len]
  | i + 1 => gAll_all (gV_len i) _ _
/-- The choices of a row for each of the first lines. -/
noncomputable def chL (R : Nat → List (List Int)) : Nat → List (List (List Int))
  | 0 => [[]]
  | i + 1 => (chL R i).flatMap fun c => (R i).map fun r => c ++ [r]
theorem chL_mem (R : Nat → List (List Int)) : ∀ i c, c ∈ chL R i ↔ c.length = i ∧ ∀ k r, c[k]? = some r → r ∈ R k
  | 0, c => by
    rw [chL, List.mem_singleton]
    constructor
    · rintro rfl; exact ⟨rfl, fun k r h => by simp at h⟩
    · rintro ⟨h, _⟩; exact List.length_eq_zero_iff.1 h
  | i + 1, c => by
    rw [chL, List.mem_flatMap]
    constructor
    · rintro ⟨b, hb, hc⟩
      obtain ⟨r, hr, rfl⟩ := List.mem_map.1 hc
      obtain ⟨h1, h2⟩ := (chL_mem R i b).1 hb
      refine ⟨by simp [h1], fun k s hs => ?_⟩
      rcases Nat.lt_trichotomy k b.length with q | q | q
      · rw [List.getElem?_append_left q] at hs; exact h2 k s hs
      · subst q; simp at hs; subst hs; rw [h1]; exact hr
      · rw [List.getElem?_eq_none (by simp; omega)] at hs; cases hs
    · rintro ⟨h1, h2⟩
      have hne : c ≠ [] := fun e => by rw [e] at h1; simp at h1
      refine ⟨c.dropLast, (chL_mem R i _).2 ⟨by simp [h1], fun k s hs => ?_⟩, List.mem_map.2 ⟨c.getLast hne, ?_, List.dropLast_concat_getLast hne⟩⟩
      · refine h2 k s ?_
        have hk := (List.getElem?_eq_some_iff.1 hs).1
        have e := List.dropLast_concat_getLast hne
        rw [← e, List.getElem?_append_left hk]; exact hs
      · have := h2 i (c.getLast hne) (by
          rw [List.getLast_eq_getElem, List.getElem?_eq_some_iff]
          exact ⟨by omega, by congr 1; omega⟩)
        exact this
theorem chL_nodup {R : Nat → List (List Int)} (h : ∀ i, (R i).Nodup) : ∀ i, (chL R i).Nodup
  | 0 => by simp [chL]
  | i + 1 => by
    rw [chL]
    refine List.pairwise_flatMap.2 ⟨fun c _ => nodup_map (h i) fun x _ y _ e => by simpa using e, ?_⟩
    refine (chL_nodup h i).imp fun {a b} hab x hx y hy e => ?_
    obtain ⟨r, _, rfl⟩ := List.mem_map.1 hx
    obtain ⟨s, _, rfl⟩ := List.mem_map.1 hy
    exact hab (List.append_inj' e rfl).1
/-- The board of a choice. -/
noncomputable def toS (f : Nat → Int) (d i : Nat) (c : List (List Int)) : List Int := cl 16 fun j => if lineOf d j < i then fn (c.getD (lineOf d j) []) (placeOf d j) else f j
noncomputable def toV (i : Nat) (c : List (List Int)) : List Int := cl 16 fun j => if j / 4 < i then fn (c.getD (j / 4) []) (j % 4) else 0
theorem getD_last {c : List (List Int)} {r : List Int} {k : Nat} (h : c.length = k) : (c ++ [r]).getD k [] = r := by
  rw [List.getD_eq_getElem?_getD, ← h]; simp
theorem getD_fore {c : List (List Int)} {r : List Int} {k : Nat} (h : k < c.length) : (c ++ [r]).getD k [] = c.getD k [] := by
  rw [List.getD_eq_getElem?_getD, List.getD_eq_getElem?_getD, List.getElem?_append_left h]
theorem toS_step (f : Nat → Int) (d i : Nat) (c : List (List Int)) (r : List Int) (h : c.length = i) : gS d i (toS f d i c) r = toS f d (i + 1) (c ++ [r]) := by
  refine cl_inj.2 fun j hj => ?_
  unfold withF
  split
  · rename_i e
    rw [if_pos (by omega), e, getD_last h]
  · rename_i e
    rw [toS, fn_cl _ j hj]
    by_cases q : lineOf d j < i
    · rw [if_pos q, if_pos (by omega), getD_fore (by omega)]
    · rw [if_neg q, if_neg (by omega)]
theorem toV_step (i : Nat) (c : List (List Int)) (r : List Int) (h : c.length = i) : gV i (toV i c) r = toV (i + 1) (c ++ [r]) := by
  refine cl_inj.2 fun j hj => ?_
  unfold putV
  split
  · rename_i e
    rw [if_pos (by omega), e, getD_last h]
  · rename_i e
    rw [toV, fn_cl _ j hj]
    by_cases q : j / 4 < i
    · rw [if_pos q, if_pos (by omega), getD_fore (by omega)]
    · rw [if_neg q, if_neg (by omega)]
theorem spS_ch (f : Nat → Int) (d : Nat) : ∀ i, spS f d i = (chL (lnR f d) i).map (toS f d i)
  | 0 => by
    rw [spS, chL, List.map_singleton]
    exact congrArg (fun x => [x]) (cl_inj.2 fun j _ => by rw [if_neg (by omega)])
  | i + 1 => by
    rw [spS, spS_ch f d i, gAll, chL, List.flatMap_map, List.map_flatMap]
    refine fm_congr _ fun c hc => ?_
    rw [List.map_map]
    exact List.map_congr_left fun r _ => toS_step f d i c r ((chL_mem _ i c).1 hc).1
theorem spV_ch (f : Nat → Int) (d : Nat) : ∀ i, spV f d i = (chL (lnR f d) i).map (toV i)
  | 0 => by
    rw [spV, chL, List.map_singleton]
    exact congrArg (fun x => [x]) (cl_inj.2 fun j _ => by rw [if_neg (by omega)])
  | i + 1 => by
    rw [spV, spV_ch f d i, gAll, chL, List.flatMap_map, List.map_flatMap]
    refine fm_congr _ fun c hc => ?_
    rw [List.map_map]
    exact List.map_congr_left fun r _ => toV_step i c r ((chL_mem _ i c).1 hc).1
/-- A board seen back from a side. -/

def bkL (d : Nat) (x : List Int) : List Int := cl 16 (backF (fn x) d)
theorem toV_back (f : Nat → Int) (d : Nat) (c : List (List Int)) : bkL d (toV 4 c) = toS f d 4 c := by
  refine cl_inj.2 fun j hj => ?_
  have h1 := lineOf_lt (d := d) hj
  have h2 := placeOf_lt (d := d) hj
  unfold backF
  rw [toV, fn_cl _ _ (by omega), if_pos (by omega), if_pos h1, show (lineOf d j * 4 + placeOf d j) / 4 = lineOf d j by omega, show (lineOf d j * 4 + placeOf d j) % 4 = placeOf d j by omega]
/-- The program's boards, seen back, are the reference's. -/
theorem spV_back (f : Nat → Int) (d : Nat) : (spV f d 4).map (bkL d) = spS f d 4 := by
  rw [spV_ch, spS_ch, List.map_map]
  exact List.map_congr_left fun c _ => toV_back f d c
theorem lnR_nodup {f : Nat → Int} (h : Vd f) (d : Nat) {i : Nat} (hi : i < 4) : (lnR f d i).Nodup := by
  unfold lnR
  rw [rbR_yes (lineF_vd h d hi)]
  refine (befS_ss (lineF f d i) 16).imp fun {a b} hab e => ?_
  rw [e, lt_irrefl] at hab; cases hab
theorem toS_line {f : Nat → Int} {d : Nat} {c : List (List Int)} {i k : Nat} (hi : i < 4) (hk : k < 4) : fn (toS f d 4 c) (pos d i k) = fn (c.getD i []) k := by
  rw [toS, fn_cl _ _ (pos_lt hi hk), lineOf_pos hi hk, placeOf_pos hi hk, if_pos hi]
theorem toS_inj {f : Nat → Int} {d : Nat} {a b : List (List Int)} (ha : a ∈ chL (lnR f d) 4) (hb : b ∈ chL (lnR f d) 4) (e : toS f d 4 a = toS f d 4 b) : a = b := by
  obtain ⟨a1, a2⟩ := (chL_mem _ 4 a).1 ha
  obtain ⟨b1, b2⟩ := (chL_mem _ 4 b).1 hb
  refine List.ext_getElem (a1.trans b1.symm) fun i h1 h2 => ?_
  have q1 : a[i]? = some a[i] := List.getElem?_eq_getElem h1
  have q2 : b[i]? = some b[i] := List.getElem?_eq_getElem h2
  have l1 := lnR_all f d i _ (a2 i _ q1)
  have l2 := lnR_all f d i _ (b2 i _ q2)
  rw [← cl_fn l1, ← cl_fn l2, cl_inj]
  intro k hk
  have := congrArg (fun l => fn l (pos d i k)) e
  simp only [toS_line (show i < 4 by omega) hk, List.getD_eq_getElem?_getD, q1, q2, Option.getD_some] at this
  exact this
theorem chL_congr {R S : Nat → List (List Int)} : ∀ i, (∀ k, k < i → R k = S k) → chL R i = chL S i
  | 0, _ => rfl
  | i + 1, h => by rw [chL, chL, chL_congr i fun k hk => h k (by omega), h i (by omega)]
theorem spS_nodup {f : Nat → Int} (h : Vd f) (d : Nat) : (spS f d 4).Nodup := by
  rw [spS_ch]
  refine nodup_map ?_ fun x hx y hy e => toS_inj hx hy e
  rw [chL_congr (S := fun k => if k < 4 then lnR f d k else []) 4 (fun k hk => by rw [if_pos hk])]
  refine chL_nodup (fun i => ?_) 4
  split
  · rename_i hi; exact lnR_nodup h d hi
  · exact List.nodup_nil
/-- Lists put to their places, one after the other, but for one. -/
noncomputable def insS (X : List (List Int)) (w : List Int) : Nat → List (List Int)
  | 0 => []
  | k + 1 => if X.getD k [] = w then insS X w k else insL (lt 16) (insS X w k) (X.getD k [])
theorem insS_skip {X : List (List Int)} {w x : List Int} {k : Nat} (h : X[k]? = some x) (e : x = w) : insS X w (k + 1) = insS X w k := by
  rw [insS, List.getD_eq_getElem?_getD, h, Option.getD_some, if_pos e]
theorem insS_step {X : List (List Int)} {w x : List Int} {k : Nat} (h : X[k]? = some x) (e : x ≠ w) : insS X w (k + 1) = insL (lt 16) (insS X w k) x := by
  rw [insS, List.getD_eq_getElem?_getD, h, Option.getD_some, if_neg e]
theorem insS_mem (X : List (List Int)) (w y : List Int) : ∀ k, k ≤ X.length → (y ∈ insS X w k ↔ y ≠ w ∧ ∃ j, j < k ∧ X[j]? = some y)
  | 0, _ => by simp [insS]
  | k + 1, hk => by
    obtain ⟨x, hx⟩ : ∃ x, X[k]? = some x := ⟨X[k]'(by omega), List.getElem?_eq_getElem _⟩
    have ih := insS_mem X w y k (by omega)
    by_cases e : x = w
    · rw [insS_skip hx e, ih]
      constructor
      · rintro ⟨h1, j, h2, h3⟩; exact ⟨h1, j, by omega, h3⟩
      · rintro ⟨h1, j, h2, h3⟩
        rcases (by omega : j < k ∨ j = k) with q | rfl
        · exact ⟨h1, j, q, h3⟩
        · rw [hx] at h3; cases h3; exact absurd e h1
    · rw [insS_step hx e, ins_mem, ih]
      constructor
      · rintro (⟨h1, j, h2, h3⟩ | rfl)
        · exact ⟨h1, j, by omega, h3⟩
        · exact ⟨e, k, by omega, hx⟩
      · rintro ⟨h1, j, h2, h3⟩
        rcases (by omega : j < k ∨ j = k) with q | rfl
        · exact Or.inl ⟨h1, j, q, h3⟩
        · rw [hx] at h3; cases h3; exact Or.inr rfl
theorem insS_all {X : List (List Int)} (h : ∀ x, x ∈ X → x.length = 16) (w : List Int) {k : Nat} (hk : k ≤ X.length) : ∀ y, y ∈ insS X w k → y.length = 16 := fun y hy => by
  obtain ⟨_, j, _, hj⟩ := (insS_mem X w y k hk).1 hy
  exact h y (List.mem_of_getElem? hj)
theorem insS_ss {X : List (List Int)} (h : ∀ x, x ∈ X → x.length = 16) (w : List Int) : ∀ k, k ≤ X.length → SS (lt 16) (insS X w k)
  | 0, _ => List.Pairwise.nil
  | k + 1, hk => by
    obtain ⟨x, hx⟩ : ∃ x, X[k]? = some x := ⟨X[k]'(by omega), List.getElem?_eq_getElem _⟩
    have ih := insS_ss h w k (by omega)
    by_cases e : x = w
    · rw [insS_skip hx e]; exact ih
    · rw [insS_step hx e]
      exact ins_ss (lt 16) (fun _ _ _ h1 h2 => lt_trans h1 h2) _ _ (fun y hy h1 h2 => lt_total (insS_all h w (by omega) y hy) (h x (List.mem_of_getElem? hx)) h1 h2) ih
theorem insS_len {X : List (List Int)} (w : List Int) : ∀ k, (insS X w k).length ≤ k
  | 0 => Nat.le_refl _
  | k + 1 => by
    have ih := insS_len (X := X) w k
    unfold insS
    split
    · omega
    · rw [ins_len]; split <;> omega
/-- A list that is not there yet: its place, found from behind. -/
theorem insS_new {X : List (List Int)} (hn : X.Nodup) (w : List Int) {k : Nat} {x : List Int} (hx : X[k]? = some x) : x ∉ insS X w k := fun hm => by
  have hk := (List.getElem?_eq_some_iff.1 hx).1
  obtain ⟨_, j, hj, e⟩ := (insS_mem X w x k (by omega)).1 hm
  obtain ⟨hj2, ej⟩ := List.getElem?_eq_some_iff.1 e
  obtain ⟨_, ek⟩ := List.getElem?_eq_some_iff.1 hx
  exact List.pairwise_iff_getElem.1 hn j k hj2 hk hj (ej.trans ek.symm)
theorem plc_back {L : List (List Int)} {b : List Int} {n : Nat} (hL : ∀ x, x ∈ L → x.length = 16) (hb : b.length = 16) (hs : SS (lt 16) L) (hm : b ∉ L) (hn : n ≤ L.length)
    (h1 : ∀ j x, n ≤ j → L[j]? = some x → lt 16 b x = true) (h2 : n = 0 ∨ ∃ x, L[n - 1]? = some x ∧ lt 16 b x = false) : plcL (lt 16) b L = n := by
  refine plc_eq (lt 16) b L n hn (fun i x hi hx => ?_) (fun x hx => lt_asym (h1 n x (Nat.le_refl n) hx))
  rcases h2 with rfl | ⟨y, hy, hy2⟩
  · omega
  · have hyb : lt 16 y b = true := by
      rcases h : lt 16 y b with _ | _
      · have := lt_total (hL y (List.mem_of_getElem? hy)) hb h hy2
        exact absurd (this ▸ List.mem_of_getElem? hy) hm
      · rfl
    rcases (by omega : i < n - 1 ∨ i = n - 1) with q | rfl
    · obtain ⟨hi2, ei⟩ := List.getElem?_eq_some_iff.1 hx
      obtain ⟨hn2, en⟩ := List.getElem?_eq_some_iff.1 hy
      have := List.pairwise_iff_getElem.1 hs i (n - 1) hi2 hn2 q
      rw [ei, en] at this
      exact lt_trans this hyb
    · rw [hy] at hx; cases hx; exact hyb
theorem ins_at {L : List (List Int)} {b : List Int} {n : Nat} (hm : b ∉ L) (h : plcL (lt 16) b L = n) : insL (lt 16) L b = L.take n ++ b :: L.drop n := by
  rw [ins_new (lt 16) (fun e => hm (List.mem_of_getElem? e)), h]
/-- All boards before a board, in order. -/
noncomputable def bfL (f : Nat → Int) (d : Nat) : List (List Int) := insS (spS f d 4) (cl 16 f) (spS f d 4).length
theorem bfL_all (f : Nat → Int) (d : Nat) : ∀ x, x ∈ bfL f d → x.length = 16 := insS_all (spS_all f d 4) _ (Nat.le_refl _)
theorem bfL_ss (f : Nat → Int) (d : Nat) : SS (lt 16) (bfL f d) := insS_ss (spS_all f d 4) _ _ (Nat.le_refl _)
theorem bfL_le (f : Nat → Int) (d : Nat) : (bfL f d).length ≤ cntP f d 4 := by
  unfold bfL; have := insS_len (X := spS f d 4) (cl 16 f) (spS f d 4).length; rw [spS_len] at *; exact this
theorem bfL_mem (f : Nat → Int) (d : Nat) (y : List Int) : y ∈ bfL f d ↔ y ≠ cl 16 f ∧ y ∈ spS f d 4 := by
  unfold bfL
  rw [insS_mem _ _ _ _ (Nat.le_refl _), List.mem_iff_getElem?]
  constructor
  · rintro ⟨h, j, _, e⟩; exact ⟨h, j, e⟩
  · rintro ⟨h, j, e⟩; exact ⟨h, j, (List.getElem?_eq_some_iff.1 e).1, e⟩
/-- The program's list: those that differ from the board, of the first n. -/
noncomputable def dfL (f : Nat → Int) (d : Nat) (n : Nat) : List (List Int) := (((spV f d 4).take n).map (bkL d)).filter fun x => decide (x ≠ cl 16 f)
theorem dfL_zero (f : Nat → Int) (d : Nat) : dfL f d 0 = [] := rfl
theorem dfL_yes {f : Nat → Int} {d n : Nat} {x : List Int} (h : (spV f d 4)[n]? = some x) (hx : bkL d x ≠ cl 16 f) : dfL f d (n + 1) = dfL f d n ++ [bkL d x] := by
  unfold dfL; rw [List.take_add_one, h, List.map_append, List.filter_append]; simp [hx]
theorem dfL_no {f : Nat → Int} {d n : Nat} {x : List Int} (h : (spV f d 4)[n]? = some x) (hx : bkL d x = cl 16 f) : dfL f d (n + 1) = dfL f d n := by
  unfold dfL; rw [List.take_add_one, h, List.map_append, List.filter_append]; simp [hx]
theorem dfL_len (f : Nat → Int) (d n : Nat) : (dfL f d n).length ≤ n := by
  unfold dfL
  have h1 := List.length_filter_le (fun x => decide (x ≠ cl 16 f)) (((spV f d 4).take n).map (bkL d))
  have h2 := List.length_take_le n (spV f d 4)
  rw [List.length_map] at h1; omega
theorem dfL_all (f : Nat → Int) (d : Nat) : dfL f d (spV f d 4).length = (spS f d 4).filter fun x => decide (x ≠ cl 16 f) := by
  unfold dfL; rw [List.take_length, spV_back]
/-- The program's list in order is the reference's. -/
theorem dfL_sort {f : Nat → Int} (h : Vd f) (d : Nat) : ((dfL f d (spV f d 4).length).mergeSort fun x y => !lt 16 y x) = bfL f d := by
  rw [dfL_all]
  refine srt_ss _ _ (fun x hx => spS_all f d 4 x (List.mem_filter.1 hx).1) ((spS_nodup h d).filter _) (bfL_ss f d) fun x => ?_
  rw [List.mem_filter, bfL_mem, decide_eq_true_iff]
  exact And.comm
/-- What BoardsBefore returns. -/
def BbOk (f : Nat → Int) (d : Int) : Prop := SlideOk f d ∧ cbR f d ≤ 300
noncomputable instance (f : Nat → Int) (d : Int) : Decidable (BbOk f d) := Classical.propDecidable _
noncomputable def bbO (f : Nat → Int) (d : Int) : Bool := decide (BbOk f d)
noncomputable def bbR (f : Nat → Int) (d : Int) : List (List Int) := if BbOk f d then bfL f d.toNat else []
theorem bb_yes {f : Nat → Int} {d : Int} (h : BbOk f d) : bbO f d = true ∧ bbR f d = bfL f d.toNat := ⟨decide_eq_true h, by simp [bbR, h]⟩
theorem bb_no {f : Nat → Int} {d : Int} (h : ¬ BbOk f d) : bbO f d = false ∧ bbR f d = [] := ⟨decide_eq_false h, by simp [bbR, h]⟩
end Go.Proofs.YtmcmpedmgibmkabGreat.Plain
