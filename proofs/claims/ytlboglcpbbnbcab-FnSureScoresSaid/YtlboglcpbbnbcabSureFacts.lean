/-
  What FnSureScores states of boards, in plain words: the worst reply's score, the best direction's score. Nothing is proved here of the program.
-/
import Derived.Test.YtlboglcpbbnbcabSureRep
import Derived.Test.YtlboglcpbbnbcabPlaceTile
import Derived.Test.YtlboglcpbbnbcabPlaceKit
namespace Go.Proofs.Ytlboglcpbbnbcab
open Go.RowKit Plain
theorem place_put {f : Nat → Int} {p : Nat × Nat} (hV : Vd f) (h : PlOk f p) : ptB f (plF p) = plB f p ∧ ptO f (plF p) = true := by
  have e2 : plF p 2 = (p.2 : Int) := rfl
  have ha := place_pl p
  have hP : PutOk f (plF p) (plF p 2) := ⟨hV, cellIn_pl h, by rw [e2]; have := h.2.2; omega, by rw [ha]; exact h.2.1⟩
  obtain ⟨r1, r2⟩ := pt_ok hP (by rw [e2]; have := h.2.2; omega)
  refine ⟨?_, r2⟩
  rw [r1, ha]
  rfl
theorem bs_is {f c : Nat → Int} : ∀ k, (bsF f c k).ok = true → (bsF f c k).v = c (bsF f c k).d ∧ isMv f (bsF f c k).d = true ∧ (bsF f c k).d < k := by
  intro k
  induction k with
  | zero => intro h; cases h
  | succ k ih =>
    intro h
    by_cases hm : isMv f k = true
    · by_cases h2 : (bsF f c k).ok = false ∨ c k > (bsF f c k).v
      · rw [bs_yes hm h2]; exact ⟨rfl, hm, Nat.lt_succ_self k⟩
      · rw [bs_no hm h2] at h ⊢
        obtain ⟨a, b, d⟩ := ih h
        exact ⟨a, b, by omega⟩
    · have hm : isMv f k = false := by simpa using hm
      rw [bs_still hm] at h ⊢
      obtain ⟨a, b, d⟩ := ih h
      exact ⟨a, b, by omega⟩
theorem reply_score {g : Nat → Int} {d m : Int} (h : rpO g d m = true) : slideRO g d = true ∧ slideRB g d = slideB g d.toNat ∧ Vd (slideB g d.toNat) ∧ ∃ p, PlOk (slideB g d.toNat) p ∧ (rpR g d m).p = p ∧
    suR (plB (slideB g d.toNat) p) m = (rpR g d m).v ∧ suO (plB (slideB g d.toNat) p) m = true := by
  have hr : RepOk g d m := by unfold rpO at h; exact of_decide_eq_true h
  obtain ⟨s1, s2, _, _⟩ := slide_yes hr.1
  have hV : Vd (slideB g d.toNat) := slideB_vd hr.1.1 _
  have hne := mv_places hr.1.1 hr.2.1
  obtain ⟨l1, l2, _⟩ := lsF_is (fun p => suF m.toNat (plB (slideB g d.toNat) p)) (plA (slideB g d.toNat)) hne
  have hp := plA_ok.1 l1
  refine ⟨s1, s2, hV, _, hp, ?_, ?_, ?_⟩
  · rw [rp_yes hr]; rfl
  · obtain ⟨u1, _⟩ := su_yes (f := plB (slideB g d.toNat) (lsF (fun p => suF m.toNat (plB (slideB g d.toNat) p)) (plA (slideB g d.toNat))).p) (n := m) ⟨plB_vd hV hp, hr.2.2.1, by have := hr.2.2.2; omega⟩
    rw [u1, rp_yes hr]
    exact l2.symm
  · exact (su_yes ⟨plB_vd hV hp, hr.2.2.1, by have := hr.2.2.2; omega⟩).2
theorem best_score {f : Nat → Int} {n : Int} (h : (beR f n).ok = true) : 1 ≤ n ∧ n ≤ 2 ∧ slideRO f ((beR f n).d : Int) = true ∧ rpO f ((beR f n).d : Int) (n - 1) = true ∧
    slideRS f ((beR f n).d : Int) + (rpR f ((beR f n).d : Int) (n - 1)).v = suR f n ∧ (0 ≤ slideRS f ((beR f n).d : Int) ∧ slideRS f ((beR f n).d : Int) ≤ 4194304) ∧
    0 ≤ (rpR f ((beR f n).d : Int) (n - 1)).v ∧ (rpR f ((beR f n).d : Int) (n - 1)).v ≤ 4194304 := by
  by_cases hb : BestOk f n
  · rw [be_yes hb] at h ⊢
    obtain ⟨k, hk⟩ := Int.eq_ofNat_of_zero_le (show 0 ≤ n - 1 by have := hb.2.1; omega)
    have hn : n.toNat - 1 = k := by have := hb.2.1; omega
    have hn2 : n.toNat = k + 1 := by have := hb.2.1; omega
    have hn3 : (n - 1).toNat = k := by omega
    have hk1 : k ≤ 1 := by have := hb.2.2; omega
    rw [hn] at h ⊢
    obtain ⟨a, b, c⟩ := bs_is 4 h
    have hd : (bbF k f 4).d < 4 := c
    have hs : SlideOk f ((bbF k f 4).d : Int) := ⟨hb.1, by omega, by omega⟩
    have ht : ((bbF k f 4).d : Int).toNat = (bbF k f 4).d := Int.toNat_natCast _
    have hr : RepOk f ((bbF k f 4).d : Int) (n - 1) := ⟨hs, by rw [ht]; exact b, by have := hb.2; omega, by have := hb.2; omega⟩
    obtain ⟨s1, s2, s3, _⟩ := slide_yes hs
    obtain ⟨u1, _⟩ := su_yes (f := f) (n := n) ⟨hb.1, by have := hb.2; omega, hb.2.2⟩
    refine ⟨hb.2.1, hb.2.2, s1, (rp_some hr).2, ?_, ?_, ?_⟩
    · rw [u1, hn2, su_succ, s3, rp_yes hr, ht, hn3]
      exact a.symm
    · rw [s3]
      have := slideS_bd hb.1 (((bbF k f 4).d : Int).toNat) 4 (Nat.le_refl _)
      omega
    · rw [rp_yes hr, hn3]
      have := wr_bd k (slideB_vd hb.1 (((bbF k f 4).d : Int).toNat))
      omega
  · rw [be_no hb] at h; cases h
end Go.Proofs.Ytlboglcpbbnbcab
