/-
  The contracts of MustMerge and CanMerge in the reference, for every board and every direction.
-/
import Derived.Test.YtmcmpedmgibmkabGreatMergeB
import Derived.Test.YtmcmpedmgibmkabGreatSpecWays
import Derived.Deep.CutBlock
import Derived.RegionTactic
namespace Go.Proofs.YtmcmpedmgibmkabGreat
open Go.RowKit Plain
attribute [local go_sem] store_new
set_option linter.unusedVariables false
set_option linter.unusedSimpArgs false

theorem l2Line_nat (d i : Nat) (w : World) (hd : d < 4) (hi : i < 4) :
    Calls Tryz.prog 93 #[.int .i64 (d : Int), .int .i64 (i : Int)] w fun e w' => e = .returned (.agg (mk 8 (lineV d i))) ∧ Below w.heap.size w w' := by
  rcases side4 hd with rfl | rfl | rfl | rfl
  · exact l2Line_0 i w hi
  · exact l2Line_1 i w hi
  · exact l2Line_2 i w hi
  · exact l2Line_3 i w hi
theorem wp_store_vk {P : Program} {o : Oper} {a : Act} {w : World} {K : Act → World → Prop} {Q : Exit → Act → World → Prop} (ty : TypeId) (x y : Operand) (ho : o.op = .store ty x y) {b n : Nat} {v u : Nat → Value} {t : TypeId}
    (hx : a.eval x = .pointer (some ⟨b, 0, none⟩)) (hy : a.eval y = .agg (vk n u)) (hg : Oth w b (vk n v) t)
    (hi : (P.info? ty).map (·.size) = some n) (h1 : (vk n u).all (·.oneCell') = true)
    (hd : o.dst = none) (h : K (a.put none undef) (w.setRow b (vk n u))) : o.wp P a w K Q := by
  rw [← hd] at h
  exact wp_store_row ty x y ho b _ hx hy t _ hg (by rw [vk_size]; exact hi) (by simp [vk_size]) h1 h
theorem wp_allocL {w : World} {o : Oper} {a : Act} {K : Act → World → Prop} {Q : Exit → Act → World → Prop} (d : Tmp) (ho : o.op = .alloc 65) (hd : o.dst = some d)
    (h : K (a.put (some d) (.pointer (some ⟨w.heap.size, 0, none⟩))) (w.alloc (.cells (vk 4 fun _ => .slice none 0 0) 65))) : o.wp Tryz.prog a w K Q := by
  have zl := zeroL
  unfold Oper.wp
  go_simp
  exact h
namespace Plain
/-- The marks so far: the lines below i, and of the line i the places below p. -/
def mkU (o : Nat → Bool) (d i p : Nat) : Nat → Int := fun j => if (lineOf d j < i ∨ (lineOf d j = i ∧ placeOf d j < p)) ∧ o j = true then 1 else 0
theorem mkU_zero (o : Nat → Bool) (d j : Nat) : mkU o d 0 0 j = 0 := by unfold mkU; rw [if_neg]; rintro ⟨h | h, _⟩ <;> omega
theorem mkU_line (o : Nat → Bool) (d i : Nat) {j : Nat} (hj : j < 16) : mkU o d i 4 j = mkU o d (i + 1) 0 j := by
  have hp := placeOf_lt (d := d) hj
  unfold mkU
  by_cases h : o j = true
  · by_cases q : lineOf d j < i + 1
    · rw [if_pos ⟨by omega, h⟩, if_pos ⟨by omega, h⟩]
    · rw [if_neg (fun e => by have := e.1; omega), if_neg (fun e => by have := e.1; omega)]
  · rw [if_neg (fun e => h e.2), if_neg (fun e => h e.2)]
theorem mkU_no {o : Nat → Bool} {d i p : Nat} (h : o (pos d i p) = false) {j : Nat} (hj : j < 16) : mkU o d i p j = mkU o d i (p + 1) j := by
  unfold mkU
  by_cases e : j = pos d i p
  · rw [e, h]; simp
  · have hne : ¬ (lineOf d j = i ∧ placeOf d j = p) := fun q => e (by rw [← pos_of (d := d) hj, q.1, q.2])
    by_cases ho : o j = true
    · by_cases q : lineOf d j < i ∨ (lineOf d j = i ∧ placeOf d j < p)
      · rw [if_pos ⟨q, ho⟩, if_pos ⟨by omega, ho⟩]
      · rw [if_neg (fun x => q x.1), if_neg (fun x => by have := x.1; omega)]
    · rw [if_neg (fun x => ho x.2), if_neg (fun x => ho x.2)]
theorem mkU_yes {o : Nat → Bool} {d i p : Nat} (hi : i < 4) (hp : p < 4) (h : o (pos d i p) = true) {j : Nat} (hj : j < 16) : upd (mkU o d i p) (pos d i p) 1 j = mkU o d i (p + 1) j := by
  by_cases e : j = pos d i p
  · rw [e, upd_same]; unfold mkU; rw [lineOf_pos hi hp, placeOf_pos hi hp, if_pos ⟨by omega, h⟩]
  · rw [upd_other _ _ e]
    have hne : ¬ (lineOf d j = i ∧ placeOf d j = p) := fun q => e (by rw [← pos_of (d := d) hj, q.1, q.2])
    unfold mkU
    by_cases ho : o j = true
    · by_cases q : lineOf d j < i ∨ (lineOf d j = i ∧ placeOf d j < p)
      · rw [if_pos ⟨q, ho⟩, if_pos ⟨by omega, ho⟩]
      · rw [if_neg (fun x => q x.1), if_neg (fun x => by have := x.1; omega)]
    · rw [if_neg (fun x => ho x.2), if_neg (fun x => ho x.2)]
theorem mkU_all (o : Nat → Bool) {d j : Nat} (hj : j < 16) : mkU o d 4 0 j = if o j then 1 else 0 := by
  have := lineOf_lt (d := d) hj
  unfold mkU
  by_cases ho : o j = true
  · rw [if_pos ⟨by omega, ho⟩, if_pos ho]
  · rw [if_neg (fun x => ho x.2), if_neg ho]
theorem ye_flat {f : Nat → Int} {d i n p : Nat} (hn : n < (lnR f d i).length) : yeN (lnR f d i) p (n + 1) = if mgB (fun c => flatF (lnR f d i) (n * 4 + c)) p then yeN (lnR f d i) p n + 1 else yeN (lnR f d i) p n := by
  have hx : (lnR f d i)[n]? = some (lnR f d i)[n] := List.getElem?_eq_getElem hn
  rw [ye_step hx, mgB_congr (f := fun c => flatF (lnR f d i) (n * 4 + c)) (g := fn (lnR f d i)[n]) fun c hc => flatF_at (lnR_all f d i) hx hc]
end Plain

/-- The lists of rows before the lines, in blocks below one. -/
def LinesT (w : World) (top : Nat) (f : Nat → Int) (d n : Nat) (v : Nat → Value) : Prop := ∀ i, i < n → ∃ g c, v i = .slice (some ⟨g, 0, none⟩) (lnR f d i).length c ∧ g < top ∧ CAt w g ((lnR f d i).length * 4) (flatF (lnR f d i))
section
variable {w w' : World} {base top n : Nat} {f : Nat → Int} {d : Nat} {v : Nat → Value}
theorem LinesB.toT (h : LinesB w base f d n v) : LinesT w w.heap.size f d n v := fun i hi => by
  obtain ⟨g, c, h1, _, h3⟩ := h i hi; exact ⟨g, c, h1, h3.1, h3⟩
theorem LinesT.below (h : LinesT w top f d n v) (hb : Below w.heap.size w w') : LinesT w' top f d n v := fun i hi => by
  obtain ⟨g, c, h1, h2, h3⟩ := h i hi; exact ⟨g, c, h1, h2, h3.below hb⟩
theorem LinesT.alloc (h : LinesT w top f d n v) (o : Obj) : LinesT (w.alloc o) top f d n v := h.below ((Below.refl _ w).alloc (Nat.le_refl _) o)
theorem LinesT.setOther (h : LinesT w top f d n v) (p : Addr) (x : Value) (hp : top ≤ p.block) : LinesT (w.setCell p x) top f d n v := fun i hi => by
  obtain ⟨g, c, h1, h2, h3⟩ := h i hi; exact ⟨g, c, h1, h2, h3.setOther p x (by omega)⟩
end
end Go.Proofs.YtmcmpedmgibmkabGreat
