/-
  What FnLasting states of boards, in plain words. Nothing is proved here of the program.
-/
import Derived.Test.YtlboglcpbbnbcabRefMove
import Derived.Test.YtlboglcpbbnbcabSafeA
import Derived.Test.YtlboglcpbbnbcabSpecWorst
import Derived.Test.YtlboglcpbbnbcabPlaceTile
import Derived.Test.YtlboglcpbbnbcabPlaceKit
import Derived.Test.YtlboglcpbbnbcabRowHelp
namespace Go.Proofs.Ytlboglcpbbnbcab
open Go.RowKit Plain
theorem place_put8 {f : Nat → Int} {p : Nat × Nat} (hV : Vd f) (h : PlOk f p) : ptB f (plF p) = plB f p ∧ ptO f (plF p) = true := by
  have e2 : plF p 2 = (p.2 : Int) := rfl
  have ha := place_pl p
  have hP : PutOk f (plF p) (plF p 2) := ⟨hV, cellIn_pl h, by rw [e2]; have := h.2.2; omega, by rw [ha]; exact h.2.1⟩
  obtain ⟨r1, r2⟩ := pt_ok hP (by rw [e2]; have := h.2.2; omega)
  refine ⟨?_, r2⟩
  rw [r1, ha]
  rfl
theorem hw_iff (f : Nat → Int) : ∀ k j, j ≤ k → (lastF j f = true ↔ j ≤ hwF f k)
  | 0, j, h => by
    obtain rfl : j = 0 := by omega
    exact ⟨fun _ => Nat.zero_le _, fun _ => rfl⟩
  | k + 1, j, h => by
    have ih := hw_iff f k
    have hle := hwF_le f k
    by_cases hc : hwF f k = k ∧ lastF (k + 1) f = true
    · have e : hwF f (k + 1) = k + 1 := hw_go hc.1 hc.2
      rw [e]
      refine ⟨fun _ => h, fun _ => ?_⟩
      rcases Nat.lt_or_ge j (k + 1) with q | q
      · exact (ih j (by omega)).2 (by omega)
      · obtain rfl : j = k + 1 := by omega
        exact hc.2
    · have e : hwF f (k + 1) = hwF f k := by show (if hwF f k = k ∧ lastF (k + 1) f = true then k + 1 else hwF f k) = _; rw [if_neg hc]
      rw [e]
      rcases Nat.lt_or_ge j (k + 1) with q | q
      · exact ih j (by omega)
      · obtain rfl : j = k + 1 := by omega
        refine ⟨fun hl => ?_, fun hl => by omega⟩
        have h2 := (ih k (Nat.le_refl _)).1 (last_less k f hl)
        exact absurd ⟨by omega, hl⟩ hc
theorem lasts_how {f : Nat → Int} {n : Int} (h : ltO f n = true) : ltR f n = decide (n ≤ hwR f) := by
  have hk : LastOk f n := by unfold ltO at h; exact of_decide_eq_true h
  rw [(lt_yes hk).1, hwR_yes hk.1]
  have := hw_iff f 3 n.toNat (by have := hk.2; omega)
  rw [Bool.eq_iff_iff, this, decide_eq_true_iff]
  have := hk.2.1
  omega
theorem lasts_safe {f : Nat → Int} {n : Int} (h : sfO f n = true) : ltO f n = true ∧ ltR f n = decide (0 < ((sfR f n).length : Int)) ∧ 1 ≤ n ∧ n ≤ 3 ∧ Vd f := by
  have hk : SafeOk f n := by unfold sfO at h; exact of_decide_eq_true h
  have hl : LastOk f n := ⟨hk.1, by have := hk.2; omega, hk.2.2⟩
  refine ⟨(lt_yes hl).2, ?_, hk.2.1, hk.2.2, hk.1⟩
  rw [(lt_yes hl).1, (sf_yes hk).1, List.length_map]
  obtain ⟨k, e⟩ : ∃ k, n.toNat = k + 1 := ⟨n.toNat - 1, by have := hk.2.1; omega⟩
  rw [e, Nat.add_sub_cancel, last_sfL, Bool.eq_iff_iff, decide_eq_true_iff, decide_eq_true_iff]
  cases sfL k f 4 <;> simp
theorem dead_at {f : Nat → Int} {i : Nat} {p : Nat × Nat} (hV : Vd f) (h : (ddL f (plA f))[i]? = some p) : PlOk f p ∧ Vd (plB f p) ∧ overR (plB f p) = true := by
  have hm := List.mem_of_getElem? h
  unfold ddL at hm
  rw [List.mem_filter] at hm
  have hp := plA_ok.1 hm.1
  refine ⟨hp, plB_vd hV hp, over_yes (plB_vd hV hp) ?_⟩
  exact of_decide_eq_true hm.2
theorem lsF_some {c : Nat × Nat → Int} {L : List (Nat × Nat)} (h : (lsF c L).ok = true) : L ≠ [] := fun e => by subst e; cases h
theorem worst_dead {f : Nat → Int} (h : (wtR f).ok = true) : ((wtR f).v == 0) = decide (0 < ((ddR f).length : Int)) := by
  by_cases hV : Vd f
  · rw [wtR_yes hV] at h ⊢
    rw [ddR_yes hV, plL_len]
    obtain ⟨l1, l2, l3⟩ := lsF_is (mvC f) (plA f) (lsF_some h)
    rw [Bool.eq_iff_iff, beq_iff_eq, decide_eq_true_iff]
    constructor
    · intro hv
      have hm : (lsF (mvC f) (plA f)).p ∈ ddL f (plA f) := by
        unfold ddL
        rw [List.mem_filter]
        refine ⟨l1, decide_eq_true ?_⟩
        have h0 : ((movL (plB f (lsF (mvC f) (plA f)).p) 4).length : Int) = 0 := l2.symm.trans hv
        omega
      have := List.length_pos_of_mem hm
      omega
    · intro hd
      obtain ⟨p, hp⟩ : ∃ p, p ∈ ddL f (plA f) := List.exists_mem_of_length_pos (by omega)
      unfold ddL at hp
      rw [List.mem_filter] at hp
      have h3 := l3 p hp.1
      have h0 : (movL (plB f p) 4).length = 0 := of_decide_eq_true hp.2
      have h4 : mvC f p = 0 := by show ((movL (plB f p) 4).length : Int) = 0; omega
      have h5 : 0 ≤ mvC f (lsF (mvC f) (plA f)).p := Int.natCast_nonneg _
      omega
  · rw [wtR_no hV] at h; cases h
theorem refuted {f : Nat → Int} {d n : Int} {p : Nat × Nat} (h : rmR f d n = some p) : slideRO f d = true ∧ slideRB f d = slideB f d.toNat ∧ Vd (slideB f d.toNat) ∧ PlOk (slideB f d.toNat) p ∧
    ltR (plB (slideB f d.toNat) p) (n - 1) = false ∧ ltO (plB (slideB f d.toNat) p) (n - 1) = true := by
  by_cases hr : RefOk f d n
  · rw [rm_yes hr] at h
    obtain ⟨s1, s2, _, _⟩ := slide_yes hr.1
    have hV := slideB_vd hr.1.1 d.toNat
    have hp := plA_ok.1 (List.mem_of_find?_eq_some h)
    have hl : LastOk (plB (slideB f d.toNat) p) (n - 1) := ⟨plB_vd hV hp, by have := hr.2.2; omega, by have := hr.2.2; omega⟩
    refine ⟨s1, s2, hV, hp, ?_, (lt_yes hl).2⟩
    rw [(lt_yes hl).1]
    have hf := List.find?_some h
    have e : (n - 1).toNat = n.toNat - 1 := by omega
    rw [e]
    simpa using hf
  · rw [rm_no hr] at h; cases h
theorem refuted_safe {f : Nat → Int} {n d : Int} (hs : sfO f n = true) (hd : d ∈ movL f 4) : (rmR f d n).isSome = !hasI (fun i => (sfR f n).getD i 0) (sfR f n).length d := by
  have hk : SafeOk f n := by unfold sfO at hs; exact of_decide_eq_true hs
  obtain ⟨k, hk4, rfl, hm⟩ := (mem_mov f d 4).1 hd
  have hr : RefOk f (k : Int) n := ⟨⟨hk.1, by omega, by omega⟩, by rw [Int.toNat_natCast]; exact hm, hk.2⟩
  rw [rm_yes hr, Int.toNat_natCast, (sf_yes hk).1]
  have hsf := sf_rf (n.toNat - 1) f k
  rw [hm, Bool.true_and] at hsf
  have hh : hasI (fun i => ((sfL (n.toNat - 1) f 4).map fun d => ((d : Nat) : Int)).getD i 0) ((sfL (n.toNat - 1) f 4).map fun d => ((d : Nat) : Int)).length (k : Int) = sfF (n.toNat - 1) f k := by
    cases hq : sfF (n.toNat - 1) f k with
    | true =>
      have hmem : (k : Int) ∈ (sfL (n.toNat - 1) f 4).map fun d => ((d : Nat) : Int) := List.mem_map.2 ⟨k, sfL_mem.2 ⟨hk4, hq⟩, rfl⟩
      obtain ⟨i, hi, he⟩ := List.getElem_of_mem hmem
      exact hasI_yes hi (by show List.getD _ _ _ = _; rw [List.getD_eq_getElem?_getD, List.getElem?_eq_getElem hi]; exact he)
    | false =>
      refine hasI_no fun j hj => ?_
      show List.getD _ _ _ ≠ _
      rw [List.getD_eq_getElem?_getD, List.getElem?_eq_getElem hj]
      intro e
      have hmem : (k : Int) ∈ (sfL (n.toNat - 1) f 4).map fun d => ((d : Nat) : Int) := by
        have := List.getElem_mem hj
        rw [show ((sfL (n.toNat - 1) f 4).map fun d => ((d : Nat) : Int))[j] = (k : Int) from e] at this
        exact this
      obtain ⟨d, hd1, hd2⟩ := List.mem_map.1 hmem
      have : d = k := by omega
      subst this
      rw [(sfL_mem.1 hd1).2] at hq
      cases hq
  rw [hh, hsf]
  cases rfF (n.toNat - 1) (slideB f k) (plA (slideB f k)) <;> rfl
end Go.Proofs.Ytlboglcpbbnbcab
