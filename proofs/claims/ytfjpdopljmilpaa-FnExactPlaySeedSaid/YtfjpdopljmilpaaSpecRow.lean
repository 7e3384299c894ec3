/-
  The contract of the reference's row that has slid: it is what impl.slideLine returns, and so is the score, for every line whose numbers are those of cells.
-/
import Derived.Test.YtfjpdopljmilpaaBaseA
namespace Go.Proofs.Ytfjpdopljmilpaa
open Go.RowKit Plain
attribute [local go_sem] store_new

/-- What 'merged' says of the tile that is open. -/
structure MergedOk (s : Slid) (m : Bool) : Prop where
  yes : m = true → s.op = 0
  no : m = false → 1 ≤ s.n → s.op = s.row (s.n - 1)
  nil : s.n = 0 → s.op = 0

set_option maxHeartbeats 2000000 in
theorem l2Row_any (f : Nat → Int) (w : World) (hf : VdRow f) :
    Calls Try.prog 236 #[.agg (mk 4 f)] w fun e w' => e = .returned (.tuple #[.agg (mk 4 (slid f 4).row), .int .i64 (slid f 4).sc]) ∧ Below w.heap.size w w' := by
  have z4 := zero4
  have HV := Lib.hid hf
  clear hf
  have K1 := ((Blk.new w 4 f 22).alloc (.cells (mk 4 fun _ => 0) 22)).alloc (.cells (mk 4 fun _ => 0) 22)
  have K2 := (Blk.new (w.alloc (.cells (mk 4 f) 22)) 4 (fun _ => 0) 22).alloc (.cells (mk 4 fun _ => 0) 22)
  have K3 := Blk.new ((w.alloc (.cells (mk 4 f) 22)).alloc (.cells (mk 4 fun _ => 0) 22)) 4 (fun _ => 0) 22
  have HB := Lib.hid ((((Below.refl w.heap.size w).alloc (Nat.le_refl _) (.cells (mk 4 f) 22)).alloc (by simp) (.cells (mk 4 fun _ => 0) 22)).alloc (by simp; omega) (.cells (mk 4 fun _ => 0) 22))
  simp only [World.size_alloc] at K2 K3
  go_enter Try.func236, Try.ntmps236
  go_wp2_with fail
  generalize ((w.alloc (.cells (mk 4 f) 22)).alloc (.cells (mk 4 fun _ => 0) 22)).alloc (.cells (mk 4 fun _ => 0) 22) = w1 at *
  go_loopg [8, 5, 6, 7] 4 (fun g s8 s5 s6 s7 wr => ∃ (k : Nat) (m : Bool), k + g = 4 ∧ s8 = .int .i64 k ∧ s5 = .int .i64 (slid f k).n ∧ s6 = .int .i64 (slid f k).sc ∧ s7 = .bool m ∧ Hid (MergedOk (slid f k) m) ∧
    Blk wr w.heap.size 4 f 22 ∧ Blk wr (w.heap.size + 1) 4 (fun _ => 0) 22 ∧ Blk wr (w.heap.size + 1 + 1) 4 (slid f k).row 22 ∧ Hid (Below w.heap.size w wr))
  case atStart => exact ⟨0, false, by omega, rfl, rfl, rfl, rfl, ⟨(fun h => by cases h), (fun _ h => absurd h (by show ¬ 1 ≤ 0; omega)), fun _ => rfl⟩, K1, K2, K3, HB⟩
  case round =>
    obtain ⟨k, m, hkg, rfl, rfl, rfl, rfl, HM, k1, k2, k3, hb⟩ := hrel
    cases gk with
    | zero =>
      have hk : ¬ ((k : Int) < 4) := by omega
      have HK : Hid (k = 4) := by show k = 4; omega
      clear hkg
      go_wp2_with (first | ((with_reducible show wpList _ _ _ (Oper.mk _ (Op.load 22 _) _ _ _ _ :: _) _ _); refine loadR (k3) rfl rfl rfl ?_) | ((with_reducible show wpList _ _ _ (Oper.mk _ (Op.store 22 _ _) _ _ _ _ :: _) _ _); refine storeR (k2) rfl rfl rfl rfl ?_))
      try simp only [Exit.inBlock, Exit.then]
      exact retctR (k2.row 4 _) rfl rfl rfl ⟨by rw [HK.out]; rfl, below_setRow hb.out (by omega) _⟩
    | succ g =>
      have hk : (k : Int) < 4 := by omega
      have hk0 : (0 : Int) ≤ (k : Int) := by omega
      have hk4 : k < 4 := by omega
      have HOK := Lib.hid (slid_ok HV.out k (by omega))
      obtain ⟨t0, t1⟩ := HV.out k hk4
      have HS : Hid (slid f (k + 1) = slidStep (slid f k) (f k)) := rfl
      have c1 := k1.cell (i := k) (by omega)
      generalize slid f k = s at *
      generalize f k = t at c1 t0 t1 HS
      obtain ⟨row, n, sc, mg, op⟩ := s
      simp only [] at k3
      have hn0 : n ≤ k := HOK.out.n_le
      have sc0 : 0 ≤ sc := HOK.out.sc0
      have sc1 : sc ≤ 1048576 := by have : sc ≤ k * 262144 := HOK.out.sc1; omega
      by_cases h0 : t = 0
      · have d0 : (t == 0) = true := by simpa using h0
        have HS2 : Hid (slid f (k + 1) = ⟨row, n, sc, mg, op⟩) := by have := HS.out; unfold slidStep at this; rw [if_pos h0] at this; exact this
        clear h0
        go_wp2_with fail
        go_roundg g
        case rel => exact ⟨k + 1, m, by omega, by go_num, by rw [HS2.out], by rw [HS2.out], rfl, by rw [HS2.out]; exact HM, k1, k2, by rw [HS2.out]; exact k3, hb⟩
        case measure => omega
      · have d0 : (t == 0) = false := by simpa using h0
        by_cases hE : 1 ≤ n ∧ row (n - 1) = t ∧ t < 17 ∧ m = false
        · obtain ⟨hn1, hrt, d2, rfl⟩ := hE
          have hop : t = op := by have e : op = row (n - 1) := HM.out.no rfl hn1; rw [e, hrt]
          have HS2 : Hid (slid f (k + 1) = ⟨upd row (n - 1) (t + 1), n, sc + worth (t + 1), mg + 1, 0⟩) := by have := HS.out; unfold slidStep at this; rw [if_neg h0, if_pos ⟨hop, d2⟩] at this; exact this
          have HM2 : Hid (MergedOk ⟨upd row (n - 1) (t + 1), n, sc + worth (t + 1), mg + 1, 0⟩ true) := ⟨(fun _ => rfl), (fun h => by cases h), fun _ => rfl⟩
          have c3 := k3.cell (i := n - 1) (by omega)
          have f3 := k3.free (n - 1)
          obtain ⟨hw0, hw1⟩ := worth_bd (t := t + 1) (by omega) (by omega)
          rw [hrt] at c3
          have g0 : (0 : Int) < (n : Int) := by omega
          have g0' : 0 < n := by omega
          have g1 : (0 : Int) ≤ (n : Int) - 1 := by omega
          have g2 : (n : Int) - 1 < 4 := by omega
          have d3 : (t == t) = true := by simp
          clear h0 hrt hop
          go_wp2_with fail
          go_quiet (fail)
          have c1d : (((wr.drewN nq).setCell ⟨w.heap.size + 1 + 1, n - 1, none⟩ (.int .i64 (t + 1)))).cell? ⟨w.heap.size, k, none⟩ = some (.int .i64 t) := by
            rw [World.cell?_setCell_other _ _ _ _ (by simp)]; exact c1
          go_wp2_with fail
          refine (l2Worth_any _ _ (by omega) (by omega)).mono ?_
          rintro e w' ⟨rfl, rfl⟩
          generalize worth (t + 1) = v at *
          go_wp2_with fail
          go_roundg g
          case rel => exact ⟨k + 1, true, by omega, by go_num, by rw [HS2.out], by rw [HS2.out], rfl, by rw [HS2.out]; exact HM2, (k1.drewN _).setOther _ _ (by dsimp only; omega), (k2.drewN _).setOther _ _ (by dsimp only; omega), by rw [HS2.out]; exact (k3.drewN _).set (by omega) _, (below_drewN hb.out _).setCell (by dsimp only; omega) _⟩
          case measure => omega
        · have HS2 : Hid (slid f (k + 1) = ⟨upd row n t, n + 1, sc, mg, t⟩) := by
            have := HS.out
            unfold slidStep at this
            rw [if_neg h0, if_neg] at this
            · exact this
            · rintro ⟨hto, ht17⟩
              simp only [] at hto
              have hnn : op ≠ 0 := by omega
              have hn1 : 1 ≤ n := (HOK.out.last hnn).1
              have hm0 : m = false := by
                cases m
                · rfl
                · exact absurd (HM.out.yes rfl) hnn
              exact hE ⟨hn1, by rw [hto]; exact (HM.out.no hm0 hn1).symm, ht17, hm0⟩
          have HM2 : Hid (MergedOk ⟨upd row n t, n + 1, sc, mg, t⟩ false) := ⟨(fun h => by cases h), (fun _ _ => (by show t = upd row n t (n + 1 - 1); simp [upd])), fun h => absurd h (by show ¬ n + 1 = 0; omega)⟩
          have c3 := k3.cell (i := n) (by omega)
          have f3 := k3.free n
          have hn4 : n < 4 := by omega
          by_cases hA : n = 0
          · have d1 : decide ((0 : Int) < (n : Int)) = false := by simp; omega
            have d1' : decide (0 < n) = false := by simp; omega
            clear h0 hE
            have HA := Lib.hid hA
            clear hA
            go_wp2_with fail
            go_quiet (fail)
            go_wp2_with fail
            go_roundg g
            case rel => exact ⟨k + 1, false, by omega, by go_num, by rw [HS2.out]; go_num, by rw [HS2.out], rfl, by rw [HS2.out]; exact HM2, (k1.drewN _).setOther _ _ (by dsimp only; omega), (k2.drewN _).setOther _ _ (by dsimp only; omega), by rw [HS2.out]; exact (k3.drewN _).set (by omega) _, (below_drewN hb.out _).setCell (by dsimp only; omega) _⟩
            case measure => omega
          · have g0 : (0 : Int) < (n : Int) := by omega
            have g0' : 0 < n := by omega
            have g1 : (0 : Int) ≤ (n : Int) - 1 := by omega
            have g2 : (n : Int) - 1 < 4 := by omega
            have c4 := k3.cell (i := n - 1) (by omega)
            by_cases hB : row (n - 1) = t
            · have d1 : (t == t) = true := by simp
              rw [hB] at c4
              by_cases hC : t < 17
              · have hm : m = true := by
                  cases m
                  · exact absurd ⟨by omega, hB, hC, rfl⟩ hE
                  · rfl
                subst hm
                clear h0 hE hA hB
                go_wp2_with fail
                go_quiet (fail)
                go_wp2_with fail
                go_roundg g
                case rel => exact ⟨k + 1, false, by omega, by go_num, by rw [HS2.out]; go_num, by rw [HS2.out], rfl, by rw [HS2.out]; exact HM2, (k1.drewN _).setOther _ _ (by dsimp only; omega), (k2.drewN _).setOther _ _ (by dsimp only; omega), by rw [HS2.out]; exact (k3.drewN _).set (by omega) _, (below_drewN hb.out _).setCell (by dsimp only; omega) _⟩
                case measure => omega
              · have d2 : decide (t < 17) = false := by simpa using hC
                clear h0 hE hA hB hC
                go_wp2_with fail
                go_quiet (fail)
                go_wp2_with fail
                go_roundg g
                case rel => exact ⟨k + 1, false, by omega, by go_num, by rw [HS2.out]; go_num, by rw [HS2.out], rfl, by rw [HS2.out]; exact HM2, (k1.drewN _).setOther _ _ (by dsimp only; omega), (k2.drewN _).setOther _ _ (by dsimp only; omega), by rw [HS2.out]; exact (k3.drewN _).set (by omega) _, (below_drewN hb.out _).setCell (by dsimp only; omega) _⟩
                case measure => omega
            · have d1 : (row (n - 1) == t) = false := by simpa using hB
              clear h0 hE hA hB
              go_wp2_with fail
              go_quiet (fail)
              go_wp2_with fail
              go_roundg g
              case rel => exact ⟨k + 1, false, by omega, by go_num, by rw [HS2.out]; go_num, by rw [HS2.out], rfl, by rw [HS2.out]; exact HM2, (k1.drewN _).setOther _ _ (by dsimp only; omega), (k2.drewN _).setOther _ _ (by dsimp only; omega), by rw [HS2.out]; exact (k3.drewN _).set (by omega) _, (below_drewN hb.out _).setCell (by dsimp only; omega) _⟩
              case measure => omega
end Go.Proofs.Ytfjpdopljmilpaa
