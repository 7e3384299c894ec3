/-
  The contract of impl.slideLine: what a line becomes when it slides, the score, and the number of mergers, for every line whose numbers are those of cells.
-/
import Derived.Test.YtfjpdopljmilpaaBaseA
namespace Go.Proofs.Ytfjpdopljmilpaa
open Go.RowKit Plain
attribute [local go_sem] store_new

set_option maxHeartbeats 1000000 in
theorem slideLine_any (f : Nat → Int) (w : World) (hf : VdRow f) :
    Calls Try.prog 265 #[.agg (mk 4 f)] w fun e w' => e = .returned (.tuple #[.agg (mk 4 (slid f 4).row), .int .i64 (slid f 4).sc, .int .i64 (slid f 4).mg]) ∧ Below w.heap.size w w' := by
  have z4 := zero4
  have iR := idxR
  have HV := Lib.hid hf
  clear hf
  have K1 := ((Blk.new w 4 f 22).alloc (.cells (mk 4 fun _ => 0) 22)).alloc (.cells (mk 4 fun _ => 0) 22)
  have K2 := (Blk.new (w.alloc (.cells (mk 4 f) 22)) 4 (fun _ => 0) 22).alloc (.cells (mk 4 fun _ => 0) 22)
  have K3 := Blk.new ((w.alloc (.cells (mk 4 f) 22)).alloc (.cells (mk 4 fun _ => 0) 22)) 4 (fun _ => 0) 22
  have HB := Lib.hid ((((Below.refl w.heap.size w).alloc (Nat.le_refl _) (.cells (mk 4 f) 22)).alloc (by simp) (.cells (mk 4 fun _ => 0) 22)).alloc (by simp; omega) (.cells (mk 4 fun _ => 0) 22))
  simp only [World.size_alloc] at K2 K3
  go_enter Try.func265, Try.ntmps265
  go_wp2_with ((with_reducible show wpList _ _ _ (Oper.mk _ (Op.load 22 _) _ _ _ _ :: _) _ _); refine loadR (K1) rfl rfl rfl ?_)
  generalize ((w.alloc (.cells (mk 4 f) 22)).alloc (.cells (mk 4 fun _ => 0) 22)).alloc (.cells (mk 4 fun _ => 0) 22) = w1 at *
  clear K1
  go_loopg [14, 6, 7, 8, 9] 4 (fun g s14 s6 s7 s8 s9 wr => ∃ k : Nat, k + g = 4 ∧ s14 = .int .i64 k ∧ s6 = .int .i64 (slid f k).n ∧ s7 = .int .i64 (slid f k).sc ∧ s8 = .int .i64 (slid f k).mg ∧ s9 = .int .i64 (slid f k).op ∧
    Blk wr (w.heap.size + 1) 4 (fun _ => 0) 22 ∧ Blk wr (w.heap.size + 1 + 1) 4 (slid f k).row 22 ∧ Hid (Below w.heap.size w wr))
  case atStart => exact ⟨0, by omega, rfl, rfl, rfl, rfl, rfl, K2, K3, HB⟩
  case round =>
    obtain ⟨k, hkg, rfl, rfl, rfl, rfl, rfl, k2, k3, hb⟩ := hrel
    cases gk with
    | zero =>
      have hk : ¬ ((k : Int) < 4) := by omega
      have HK : Hid (k = 4) := by show k = 4; omega
      clear hkg
      go_wp2_with (first | ((with_reducible show wpList _ _ _ (Oper.mk _ (Op.load 22 _) _ _ _ _ :: _) _ _); refine loadR (k3) rfl rfl rfl ?_) | ((with_reducible show wpList _ _ _ (Oper.mk _ (Op.store 22 _ _) _ _ _ _ :: _) _ _); refine storeR (k2) rfl rfl rfl rfl ?_))
      try simp only [Exit.inBlock, Exit.then]
      exact retcttR (k2.row 4 _) rfl rfl rfl ⟨by rw [HK.out]; rfl, below_setRow hb.out (by omega) _⟩
    | succ g =>
      have hk : (k : Int) < 4 := by omega
      have hk4 : k < 4 := by omega
      have HOK := Lib.hid (slid_ok HV.out k (by omega))
      obtain ⟨t0, t1⟩ := HV.out k hk4
      have HS : Hid (slid f (k + 1) = slidStep (slid f k) (f k)) := rfl
      generalize slid f k = s at *
      obtain ⟨row, n, sc, mg, op⟩ := s
      simp only [] at k3
      have hn0 : n ≤ k := HOK.out.n_le
      have sc0 : 0 ≤ sc := HOK.out.sc0
      have sc1 : sc ≤ 1048576 := by have : sc ≤ k * 262144 := HOK.out.sc1; omega
      have mg0 : 0 ≤ mg := HOK.out.mg0
      have mg1 : mg ≤ 4 := by have : mg ≤ k := HOK.out.mg1; omega
      by_cases h0 : (f k) = 0
      · have d0 : ((f k) == 0) = true := by simpa using h0
        have HS2 : Hid (slid f (k + 1) = ⟨row, n, sc, mg, op⟩) := by have := HS.out; unfold slidStep at this; rw [if_pos h0] at this; exact this
        clear h0
        go_wp2_with fail
        go_roundg g
        case rel => exact ⟨k + 1, by omega, by go_num, by rw [HS2.out], by rw [HS2.out], by rw [HS2.out], by rw [HS2.out], k2, by rw [HS2.out]; exact k3, hb⟩
        case measure => omega
      · have d0 : ((f k) == 0) = false := by simpa using h0
        by_cases hm : (f k) = op ∧ (f k) < 17
        · have d1 : ((f k) == op) = true := by simpa using hm.1
          have d2 : (f k) < 17 := hm.2
          have HS2 : Hid (slid f (k + 1) = ⟨upd row (n - 1) ((f k) + 1), n, sc + worth ((f k) + 1), mg + 1, 0⟩) := by have := HS.out; unfold slidStep at this; rw [if_neg h0, if_pos hm] at this; exact this
          have hn1 : 1 ≤ n := (HOK.out.last (by show op ≠ 0; omega)).1
          have c3 := k3.cell (i := n - 1) (by omega)
          have f3 := k3.free (n - 1)
          obtain ⟨hw0, hw1⟩ := worth_bd (t := f k + 1) (by omega) (by omega)
          clear h0 hm
          go_wp2_with fail
          refine (worthOf_any _ _ (by omega) (by omega)).mono ?_
          rintro e w' ⟨rfl, rfl⟩
          generalize worth ((f k) + 1) = v at *
          go_wp2_with fail
          go_roundg g
          case rel => exact ⟨k + 1, by omega, by go_num, by rw [HS2.out], by rw [HS2.out], by rw [HS2.out], by rw [HS2.out], k2.setOther _ _ (by dsimp only; omega), by rw [HS2.out]; exact k3.set (by omega) _, hb.out.setCell (by dsimp only; omega) _⟩
          case measure => omega
        · have HS2 : Hid (slid f (k + 1) = ⟨upd row n (f k), n + 1, sc, mg, (f k)⟩) := by have := HS.out; unfold slidStep at this; rw [if_neg h0, if_neg hm] at this; exact this
          have c3 := k3.cell (i := n) (by omega)
          have f3 := k3.free n
          by_cases hq : (f k) = op
          · have d1 : ((f k) == op) = true := by simpa using hq
            have d2 : decide ((f k) < 17) = false := by simp; omega
            clear h0 hm hq
            go_wp2_with fail
            go_roundg g
            case rel => exact ⟨k + 1, by omega, by go_num, by rw [HS2.out]; go_num, by rw [HS2.out], by rw [HS2.out], by rw [HS2.out], k2.setOther _ _ (by dsimp only; omega), by rw [HS2.out]; exact k3.set (by omega) _, hb.out.setCell (by dsimp only; omega) _⟩
            case measure => omega
          · have d1 : ((f k) == op) = false := by simpa using hq
            clear h0 hm hq
            go_wp2_with fail
            go_roundg g
            case rel => exact ⟨k + 1, by omega, by go_num, by rw [HS2.out]; go_num, by rw [HS2.out], by rw [HS2.out], by rw [HS2.out], k2.setOther _ _ (by dsimp only; omega), by rw [HS2.out]; exact k3.set (by omega) _, hb.out.setCell (by dsimp only; omega) _⟩
            case measure => omega
end Go.Proofs.Ytfjpdopljmilpaa
