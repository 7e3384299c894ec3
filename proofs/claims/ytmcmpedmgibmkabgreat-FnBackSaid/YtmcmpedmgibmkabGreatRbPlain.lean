/-
  Plain facts on the rows before a row: there are at most 15, each slides to it, a row is before what it slides to, and numbers tell rows.
-/
import Derived.Test.YtmcmpedmgibmkabGreatSpecImage
import Derived.Test.YtmcmpedmgibmkabGreatRowsNum
namespace Go.Proofs.YtmcmpedmgibmkabGreat.Plain
/-- How many of the first m codes have n bits. -/
def cp (n : Nat) : Nat → Nat
  | 0 => 0
  | m + 1 => if popc m = n then cp n m + 1 else cp n m
theorem sprL_cp (ts : List Int) : ∀ m, (sprL ts m).length = cp ts.length m
  | 0 => rfl
  | m + 1 => by
    have := sprL_cp ts m
    unfold sprL cp
    rw [spr_pop]
    split <;> simp [this]
def cg (n : Nat) : Nat := if n = 0 then 1 else if n = 1 then 4 else if n = 2 then 6 else if n = 3 then 4 else if n = 4 then 1 else 0
theorem popc_le (m : Nat) : popc m ≤ 4 := by unfold popc; split <;> split <;> split <;> split <;> omega
theorem cp_none {n : Nat} (h : 4 < n) : ∀ m, cp n m = 0
  | 0 => rfl
  | m + 1 => by have := popc_le m; unfold cp; rw [if_neg (by omega)]; exact cp_none h m
theorem cp_cg (n : Nat) : cp n 16 = cg n := by
  rcases (by omega : n = 0 ∨ n = 1 ∨ n = 2 ∨ n = 3 ∨ n = 4 ∨ 4 < n) with rfl | rfl | rfl | rfl | rfl | h
  · decide
  · decide
  · decide
  · decide
  · decide
  · rw [cp_none h]; unfold cg; rw [if_neg (by omega), if_neg (by omega), if_neg (by omega), if_neg (by omega), if_neg (by omega)]
/-- One tile more: it is there, or two less ones are. -/
def up2 (g : Nat → Nat) : Nat → Nat := fun n => g (n + 1) + g (n + 2)
def upN (g : Nat → Nat) : Nat → Nat → Nat
  | 0 => g
  | c + 1 => upN (up2 g) c
theorem sum_two (r : Nat → Int) (t : Int) (g : Nat → Nat) : ∀ L : List (List Int), ((L.flatMap fun l => two1 l t).map fun l => g l.length).sum ≤ (L.map fun l => up2 g l.length).sum
  | [] => by simp
  | a :: L => by
    have ih := sum_two r t g L
    rw [List.flatMap_cons, List.map_append, List.sum_append, List.map_cons, List.sum_cons]
    have : ((two1 a t).map fun l => g l.length).sum ≤ up2 g a.length := by
      unfold two1 up2
      split
      · simp
      · simp
    omega
def tln (r : Nat → Int) : Nat → Nat
  | 0 => 0
  | k + 1 => if r k = 0 then tln r k else tln r k + 1
theorem tln_le (r : Nat → Int) : ∀ k, tln r k ≤ k
  | 0 => Nat.le_refl _
  | k + 1 => by have := tln_le r k; unfold tln; split <;> omega
theorem upN_succ (g : Nat → Nat) : ∀ c, upN g (c + 1) = upN (up2 g) c := fun _ => rfl
theorem cf_sum (r : Nat → Int) : ∀ k (g : Nat → Nat), ((cfL r k).map fun l => g l.length).sum ≤ upN g (tln r k) 0
  | 0, g => by simp [cfL, tln, upN]
  | k + 1, g => by
    unfold cfL tln
    split
    · exact cf_sum r k g
    · exact Nat.le_trans (sum_two r (r k) g _) (cf_sum r k (up2 g))
theorem befP_15 (r : Nat → Int) : (befP r).length ≤ 15 := by
  have h1 : (befP r).length ≤ ((cfL r 4).map fun l => cg l.length).sum := by
    unfold befP
    rw [List.length_flatMap]
    generalize cfL r 4 = L
    induction L with
    | nil => simp
    | cons a L ih =>
      have h2 := List.length_filter_le (fun x => sameR (slid (fn x) 4).row r) (sprL a 16)
      rw [sprL_cp, cp_cg] at h2
      simp only [List.map_cons, List.sum_cons]; omega
  have h2 := cf_sum r 4 cg
  have h3 := tln_le r 4
  have h4 : upN cg (tln r 4) 0 ≤ 15 := by
    rcases (by omega : tln r 4 = 0 ∨ tln r 4 = 1 ∨ tln r 4 = 2 ∨ tln r 4 = 3 ∨ tln r 4 = 4) with h | h | h | h | h <;> rw [h] <;> decide
  omega
theorem rbR_15 (r : Nat → Int) : (rbR r).length ≤ 15 := by
  by_cases h : VdRow r
  · rw [rbR_yes h, ← bef_same h, List.length_mergeSort]; exact befP_15 r
  · rw [rbR_no h]; exact Nat.zero_le _
theorem rbR_bef {r : Nat → Int} (h : VdRow r) (x : List Int) : x ∈ rbR r ↔ Bef r x := by rw [rbR_yes h]; exact befS_iff h x
/-- What is before a row slides to it. -/
theorem rb_slides {r : Nat → Int} (h : VdRow r) {i : Nat} {x : List Int} (hx : (rbR r)[i]? = some x) : VdRow (fun j => flatF (rbR r) (i * 4 + j)) ∧ sameR (slid (fun j => flatF (rbR r) (i * 4 + j)) 4).row r = true := by
  have e : ∀ j, j < 4 → flatF (rbR r) (i * 4 + j) = fn x j := fun j hj => flatF_at (rbR_all r) hx hj
  obtain ⟨_, h2, h3⟩ := (rbR_bef h x).1 (List.mem_of_getElem? hx)
  refine ⟨fun j hj => by show 0 ≤ flatF (rbR r) (i * 4 + j) ∧ flatF (rbR r) (i * 4 + j) ≤ 17; rw [e j hj]; exact h2 j hj, ?_⟩
  rw [slid_congr (g := fn x) 4 e, sameR_iff]
  exact h3
/-- A row that an image has is flush. -/
theorem im_flush {r : Nat → Int} (h : VdRow r) (hi : imR r = true) : FlP r := by
  obtain ⟨x, hx⟩ := List.exists_mem_of_length_pos (of_decide_eq_true hi)
  exact (bef_ex ((rbR_bef h x).1 hx)).2
/-- A row is before what it slides to. -/
theorem rb_own {f : Nat → Int} (h : VdRow f) : ∃ i, i < (rbR (slid f 4).row).length ∧ sameR (fun j => flatF (rbR (slid f 4).row) (i * 4 + j)) f = true := by
  have hn := slid_vd h
  have hm : cl 4 f ∈ rbR (slid f 4).row := (rbR_bef hn _).2 ⟨cl_len _ _, fun i hi => by rw [fn_cl _ i hi]; exact h i hi, fun i hi => by rw [slid_congr (g := f) 4 (fn_cl _)]⟩
  obtain ⟨i, hi, e⟩ := List.getElem_of_mem hm
  refine ⟨i, hi, sameR_iff.2 fun j hj => ?_⟩
  have e2 : (rbR (slid f 4).row)[i]? = some (cl 4 f) := by rw [List.getElem?_eq_getElem hi, e]
  rw [flatF_at (rbR_all _) e2 hj, fn_cl _ j hj]
/-- The number of a row tells it. -/
theorem num_back {f : Nat → Int} (h : VdRow f) : AtOk (num f 4) ∧ sameR (dig (num f 4).toNat 18 0) f = true := by
  have h0 := h 0 (by omega); have h1 := h 1 (by omega); have h2 := h 2 (by omega); have h3 := h 3 (by omega)
  have hn : num f 4 = ((f 0 * 18 + f 1) * 18 + f 2) * 18 + f 3 := by simp [num]
  obtain ⟨a0, e0⟩ := Int.eq_ofNat_of_zero_le h0.1
  obtain ⟨a1, e1⟩ := Int.eq_ofNat_of_zero_le h1.1
  obtain ⟨a2, e2⟩ := Int.eq_ofNat_of_zero_le h2.1
  obtain ⟨a3, e3⟩ := Int.eq_ofNat_of_zero_le h3.1
  rw [e0] at h0; rw [e1] at h1; rw [e2] at h2; rw [e3] at h3
  have hN : num f 4 = ((((a0 * 18 + a1) * 18 + a2) * 18 + a3 : Nat) : Int) := by rw [hn, e0, e1, e2, e3]; omega
  refine ⟨by unfold AtOk; omega, sameR_iff.2 fun i hi => ?_⟩
  rw [hN, Int.toNat_natCast]
  unfold dig; rw [if_pos (Nat.zero_le _)]
  rcases (by omega : i = 0 ∨ i = 1 ∨ i = 2 ∨ i = 3) with rfl | rfl | rfl | rfl
  · rw [e0]; simp only [Nat.reducePow, Nat.reduceSub]; omega
  · rw [e1]; simp only [Nat.reducePow, Nat.reduceSub]; omega
  · rw [e2]; simp only [Nat.reducePow, Nat.reduceSub]; omega
  · rw [e3]; simp only [Nat.reducePow, Nat.reduceSub]; omega
end Go.Proofs.YtmcmpedmgibmkabGreat.Plain
