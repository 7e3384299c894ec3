/-
  The program's comparing function of two rows, and slices.SortFunc at rows of four that the caller owns: what they are behind it. The condition: all numbers are those of cells.
-/
import Derived.Test.YtphkidkkcknnmaaSortKit
import Derived.Test.YtphkidkkcknnmaaLays3
import Derived.Deep.RegionHeld3
namespace Go.Proofs.Ytphkidkkcknnmaa
open Go.RowKit Plain Go.Sort
attribute [local go_sem] store_new
set_option linter.unusedVariables false

/-- slices.Compare of two rows of four that are the same. -/
theorem compare_eq (b1 o1 b2 o2 p q : Nat) (f : Nat → Int) (w : World)
    (h1 : ∀ j, j < 4 → w.cell? ⟨b1, o1 + j, none⟩ = some (.int .i64 (f j))) (h2 : ∀ j, j < 4 → w.cell? ⟨b2, o2 + j, none⟩ = some (.int .i64 (f j))) :
    Calls Try.prog 134 #[.slice (some ⟨b1, o1, none⟩) 4 p, .slice (some ⟨b2, o2, none⟩) 4 q] w fun e w' => e = .returned (.int .i64 0) ∧ w = w' := by
  have H1 := Lib.hid h1
  have H2 := Lib.hid h2
  clear h1 h2
  go_enter Try.func134, Try.ntmps134
  go_wp2_with fail
  go_loop [11] (fun i => ∃ k : Nat, k ≤ 4 ∧ i = .int .i64 k) (fun i => 4 - (intOf i).toNat)
  case atStart => exact ⟨0, Nat.zero_le _, rfl⟩
  case round =>
    obtain ⟨k, hk, rfl⟩ := hrel
    have hk0 : (0 : Int) ≤ (k : Int) := by omega
    by_cases hlt : k < 4
    · have hk4 : (k : Int) < 4 := by omega
      have c1 := H1.out k hlt
      have c2 := H2.out k hlt
      generalize f k = x at c1 c2
      go_wp2_with fail
      refine (cmp_eq _ _).mono ?_
      rintro e w1 ⟨rfl, rfl⟩
      go_wp2_with fail
      go_round
      case rel => exact ⟨k + 1, by omega, by go_num⟩
      case measure => simp [intOf]; omega
    · obtain rfl : k = 4 := by omega
      go_wp2_with fail
      go_ret
      exact ⟨rfl, rfl⟩
/-- What the program's comparing function of two rows returns. -/
noncomputable def cmpV4 (f g : Nat → Int) : Int := if sameR f g = true then 0 else if lessN 4 f g then -1 else 1
theorem cmpQ_cf (x y : Bo 4) : cmpV4 (fn x.1) (fn y.1) = cfO 4 x y := by
  unfold cmpV4 cfO
  have hs : (sameR (fn x.1) (fn y.1) = true) ↔ x.1 = y.1 := by
    rw [sameR_iff, ← cl_inj (n := 4), cl_fn x.len, cl_fn y.len]
  by_cases h : x.1 = y.1
  · rw [if_pos (hs.2 h), if_pos h]
  · rw [if_neg (fun q => h (hs.1 q)), if_neg h]
    unfold lt
    by_cases hl : lessN 4 (fn x.1) (fn y.1)
    · rw [if_pos hl, if_pos (decide_eq_true hl)]
    · rw [if_neg hl, if_neg (by rw [decide_eq_false hl]; simp)]
set_option maxHeartbeats 1000000 in
theorem cmpQ_any (f g : Nat → Int) (w : World) :
    Calls Try.prog 117 #[.agg (mk 4 f), .agg (mk 4 g)] w fun e w' => e = .returned (.int .i64 (cmpV4 f g)) ∧ Dr.Below w.heap.size w w' := by
  have K1 := (Blk.new w 4 f 22).alloc (.cells (mk 4 g) 22)
  have K2 := Blk.new (w.alloc (.cells (mk 4 f) 22)) 4 g 22
  have HB := Lib.hid (((Dr.Below.refl w.heap.size w).alloc (Nat.le_refl _) (.cells (mk 4 f) 22)).alloc (by simp) (.cells (mk 4 g) 22))
  simp only [World.size_alloc] at K2
  cases hs : sameR f g with
  | true =>
    have he := sameR_iff.1 hs
    have K2 := K2.congr (g := f) (fun i hi => (he i hi).symm)
    have HV : Hid (cmpV4 f g = 0) := by show _ = _; simp [cmpV4, hs]
    clear he hs
    go_enter Try.func117, Try.ntmps117
    go_wp2_with fail
    generalize (w.alloc (.cells (mk 4 f) 22)).alloc (.cells (mk 4 g) 22) = w4 at *
    go_region_held3 (fun w' => Blk w' w.heap.size 4 f 22 ∧ Blk w' (w.heap.size + 1) 4 f 22 ∧ Dr.Below w.heap.size w w') (first | exact ⟨K1.drew, K2.drew, HB.out.drew⟩ | assumption) (first | (go_at_call 134; refine (compare_eq _ 0 _ 0 _ _ f _ (fun j hj => by rw [Nat.zero_add]; exact Blk.cell (And.left (by assumption)) hj) (fun j hj => by rw [Nat.zero_add]; exact Blk.cell (And.left (And.right (by assumption))) hj)).mono ?_; rintro e w6 ⟨rfl, rfl⟩) | fail)
    all_goals
      go_wp2_with fail
      go_ret
      exact ⟨by rw [HV.out]; rfl, And.right (And.right (by assumption))⟩
  | false =>
    obtain ⟨c, hc, hi, hd⟩ := row_first hs
    have hl := lessN_at (n := 4) hc hi hd
    rcases (by omega : f c < g c ∨ g c < f c) with hx | hx
    · have HV : Hid (cmpV4 f g = -1) := by show _ = _; simp [cmpV4, hs, hl.2 hx]
      have HC := Lib.hid hc
      have HI := Lib.hid hi
      have HX := Lib.hid hx
      clear hc hi hx hl hd hs
      go_enter Try.func117, Try.ntmps117
      go_wp2_with fail
      generalize (w.alloc (.cells (mk 4 f) 22)).alloc (.cells (mk 4 g) 22) = w4 at *
      go_region_held3 (fun w' => Blk w' w.heap.size 4 f 22 ∧ Blk w' (w.heap.size + 1) 4 g 22 ∧ Dr.Below w.heap.size w w') (first | exact ⟨K1.drew, K2.drew, HB.out.drew⟩ | assumption) (first | (go_at_call 134; refine (compare_lt _ 0 _ 0 _ _ f g c _ HC.out HI.out HX.out (fun j hj => by rw [Nat.zero_add]; exact Blk.cell (And.left (by assumption)) hj) (fun j hj => by rw [Nat.zero_add]; exact Blk.cell (And.left (And.right (by assumption))) hj)).mono ?_; rintro e w6 ⟨rfl, rfl⟩) | fail)
      all_goals
        go_wp2_with fail
        go_ret
        exact ⟨by rw [HV.out]; rfl, And.right (And.right (by assumption))⟩
    · have HV : Hid (cmpV4 f g = 1) := by show _ = _; simp [cmpV4, hs, hl, show ¬ f c < g c by omega]
      have HC := Lib.hid hc
      have HI := Lib.hid hi
      have HX := Lib.hid hx
      clear hc hi hx hl hd hs
      go_enter Try.func117, Try.ntmps117
      go_wp2_with fail
      generalize (w.alloc (.cells (mk 4 f) 22)).alloc (.cells (mk 4 g) 22) = w4 at *
      go_region_held3 (fun w' => Blk w' w.heap.size 4 f 22 ∧ Blk w' (w.heap.size + 1) 4 g 22 ∧ Dr.Below w.heap.size w w') (first | exact ⟨K1.drew, K2.drew, HB.out.drew⟩ | assumption) (first | (go_at_call 134; refine (compare_gt _ 0 _ 0 _ _ f g c _ HC.out HI.out HX.out (fun j hj => by rw [Nat.zero_add]; exact Blk.cell (And.left (by assumption)) hj) (fun j hj => by rw [Nat.zero_add]; exact Blk.cell (And.left (And.right (by assumption))) hj)).mono ?_; rintro e w6 ⟨rfl, rfl⟩) | fail)
      all_goals
        go_wp2_with fail
        go_ret
        exact ⟨by rw [HV.out]; rfl, And.right (And.right (by assumption))⟩
theorem cmpLaysQ (b size : Nat) (w : World) : CmpLays Try.prog 117 #[] (encO 4) 4 (cfO 4) b 0 size w := fun m os dk _ x y => by
  have h := cmpQ_any (fn x.1) (fn y.1) (sortWorldK (encO 4) 4 w b 0 m dk os)
  rw [encO_mk, encO_mk, ← cmpQ_cf]
  exact h.mono fun e w' ⟨h1, h2⟩ => ⟨h1, h2.grow⟩
theorem sortQ_any (base b cap : Nat) (e : TypeId) (L : List (List Int)) (w : World) (hv : VdL 4 L) (hn : L.length ≤ 1048576) (ho : w.ownsRow base e 4 (.slice (some ⟨b, 0, none⟩) L.length cap) L.length (L.flatten.map (Value.int .i64))) :
    Calls Try.prog 116 #[.slice (some ⟨b, 0, none⟩) L.length cap, .func (.func 117) #[] #[]] w fun r w' => r = .returned (.tuple #[]) ∧
      w'.ownsRow base e 4 (.slice (some ⟨b, 0, none⟩) L.length cap) L.length ((srtL 4 L).flatten.map (Value.int .i64)) ∧ Below base w w' := by
  have eg : ∀ args w, (callFunc 117 args).run Try.prog w = .ok (.enter 117 args) w := enters_of Try.func117 (by kernel_rfl) rfl
  have hbl : b < w.heap.size := (ho.lt b rfl).2
  have hlen := flat_len hv.all
  have hH : HoldsK (encO 4) 4 w b 0 (toBo hv).toArray := fun j hj => by
    rw [flatK_list, toBo_map] at hj ⊢
    have hj' : j < L.length * 4 := by rw [List.size_toArray, List.length_map, hlen] at hj; exact hj
    rw [Nat.zero_add]
    refine ⟨?_, ho.frozenAt j⟩
    rw [ho.cellAt j hj', getElem!_pos _ j hj, List.getElem?_eq_getElem (by simpa using hj)]
    simp
  have hcon := AnyQ.slices_SortFunc_total Try.sortQ 4 Try.isAgg22 Try.sizeOf22 (encO 4) (encO_len 4) (encO_one 4) (cfO 4) (swoO 4) 117 #[] b 0 cap (toBo hv).toArray w eg (cmpLaysQ b _ w) hH hbl (by simp [toBo_len]; omega) (totO 4)
  change Calls Try.prog 116 _ _ _ at hcon
  rw [show ((toBo hv).toArray).size = L.length by simp [toBo_len]] at hcon
  refine hcon.mono fun r w' ⟨h1, n, os, h2⟩ => ⟨h1, ?_⟩
  have hd : ((toBo hv).mergeSort fun x y => !(ltOf (cfO 4)) y x).map (·.1) = srtL 4 L := by
    unfold srtL
    rw [List.map_mergeSort (s := fun x y => !lt 4 y x) (fun a _ b _ => by rw [cfO_lt]), toBo_map]
  rw [h2]
  exact sorted_own (srt_all hv.all) (srt_len 4 L) rfl ho _ hd os
end Go.Proofs.Ytphkidkkcknnmaa
