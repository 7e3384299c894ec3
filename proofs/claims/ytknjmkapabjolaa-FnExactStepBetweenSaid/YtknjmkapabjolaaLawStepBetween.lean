/-
  Proved: for every two boards, the law FnExactStepBetween returns true, and both read as they did. No condition.
-/
import Derived.Test.YtknjmkapabjolaaSpecBetween
import Derived.Test.YtknjmkapabjolaaImplNexts
import Derived.Test.YtknjmkapabjolaaStepRows
import Derived.Test.YtknjmkapabjolaaBaseA
import Derived.Test.YtknjmkapabjolaaClosed
import Derived.Deep.RegionHeld3
import Derived.Deep.CutRange
namespace Go.Proofs.Ytknjmkapabjolaa.fnExactStepBetween
open Go.ChangeShapes Go.WideShapes Go.ChangeAt Go.RowKit Plain
set_option linter.unusedVariables false
set_option linter.unusedSimpArgs false

theorem below3 {w a b : World} (h : Below w.heap.size w a) (k : Below a.heap.size a b) : Below w.heap.size w b := h.trans (k.mono h.size)
theorem heldL_step {w W w6 : World} {b c n m : Nat} {f g : Nat → Int} {t u : TypeId} (h : Blk W b n f t ∧ Blk W c m g u ∧ Below w.heap.size w W) (hb : Below W.heap.size W w6) : Blk w6 b n f t ∧ Blk w6 c m g u ∧ Below w.heap.size w w6 :=
  ⟨h.1.below hb h.1.lt, h.2.1.below hb h.2.1.lt, h.2.2.trans (hb.mono h.2.2.size)⟩
theorem q2_step {w W w6 : World} {b c n m k : Nat} {f g h1 : Nat → Int} {t u : TypeId} {v : Value} (h : Blk W b n f t ∧ Blk W c m g u ∧ Below w.heap.size w W ∧ KRow 4 W v k h1) (hb : Below W.heap.size W w6) : Blk w6 b n f t ∧ Blk w6 c m g u ∧ Below w.heap.size w w6 ∧ KRow 4 w6 v k h1 :=
  ⟨h.1.below hb h.1.lt, h.2.1.below hb h.2.1.lt, h.2.2.1.trans (hb.mono h.2.2.1.size), h.2.2.2.below hb⟩
theorem q3_step {w W w6 : World} {b c n m k : Nat} {f g h1 h2 : Nat → Int} {t u : TypeId} {v v2 : Value} (h : Blk W b n f t ∧ Blk W c m g u ∧ Below w.heap.size w W ∧ KRow 4 W v k h1 ∧ KRow 4 W v2 k h2) (hb : Below W.heap.size W w6) : Blk w6 b n f t ∧ Blk w6 c m g u ∧ Below w.heap.size w w6 ∧ KRow 4 w6 v k h1 ∧ KRow 4 w6 v2 k h2 :=
  ⟨h.1.below hb h.1.lt, h.2.1.below hb h.2.1.lt, h.2.2.1.trans (hb.mono h.2.2.1.size), h.2.2.2.1.below hb, h.2.2.2.2.below hb⟩
/-- The world ahead of a call is forgotten, but for what lies there still. -/
theorem own_pack1 {w0 w W : World} {t : TypeId} {b c nn m l n : Nat} {f g : Nat → Int} {t1 u : TypeId} {v : Value} {xs : List Value} (h : w.ownsRow W.heap.size t m v n xs) (_ : Blk W b nn f t1 ∧ Blk W c l g u ∧ Below w0.heap.size w0 W) (_ : Below W.heap.size W w) :
    ∃ base, Hid (w.ownsRow base t m v n xs) ∧ Hid (base = W.heap.size) := ⟨_, h, rfl⟩
theorem own_pack2 {w0 w W : World} {t : TypeId} {b c nn m l n k : Nat} {f g h1 : Nat → Int} {t1 u : TypeId} {v v1 : Value} {xs : List Value} (h : w.ownsRow W.heap.size t m v n xs) (hS : Blk W b nn f t1 ∧ Blk W c l g u ∧ Below w0.heap.size w0 W ∧ KRow 4 W v1 k h1) (hb : Below W.heap.size W w) :
    ∃ base, Hid (w.ownsRow base t m v n xs) ∧ Hid (b < base ∧ c < base ∧ w0.heap.size ≤ base ∧ base ≤ w.heap.size ∧ ∀ w', Below base w w' → KRow 4 w' v1 k h1) :=
  ⟨_, h, hS.1.lt, hS.2.1.lt, hS.2.2.1.size, hb.size, fun w' hb' => by
    obtain ⟨g, cap, rfl, hle, hc⟩ := hS.2.2.2
    exact ⟨g, cap, rfl, hle, (hc.below hb).low hb' hc.1⟩⟩
theorem own_pack3 {w0 w W : World} {t : TypeId} {b c nn m l n k : Nat} {f g h1 h2 : Nat → Int} {t1 u : TypeId} {v v1 v2 : Value} {xs : List Value} (h : w.ownsRow W.heap.size t m v n xs) (_ : Blk W b nn f t1 ∧ Blk W c l g u ∧ Below w0.heap.size w0 W ∧ KRow 4 W v1 k h1 ∧ KRow 4 W v2 k h2) (_ : Below W.heap.size W w) :
    ∃ base, Hid (w.ownsRow base t m v n xs) ∧ Hid (base = W.heap.size) := ⟨_, h, rfl⟩
set_option maxHeartbeats 4000000 in
set_option maxRecDepth 20000 in
theorem walk (a0 : Nat → Int) (_ : ∀ i, i < 16 → (Lit.int .i64 (a0 i)).wf = true) (a1 : Nat → Int) (_ : ∀ i, i < 16 → (Lit.int .i64 (a1 i)).wf = true) (w : World) (_ : w.ShapedOpen Try.prog) :
    Calls Try.prog 7 #[.agg (mk 16 a0), .agg (mk 16 a1)] w fun e w' => e = .returned (.bool true) ∧ Below w.heap.size w w' := by
  have K0 := (Blk.new w 16 a0 25).alloc (.cells (mk 16 a1) 25)
  have K1 := Blk.new (w.alloc (.cells (mk 16 a0) 25)) 16 a1 25
  have HB : Hid (Below w.heap.size w ((w.alloc (.cells (mk 16 a0) 25)).alloc (.cells (mk 16 a1) 25))) := ((Below.refl w.heap.size w).alloc (Nat.le_refl _) _).alloc (by simp) _
  simp only [World.size_alloc] at K1
  have hn := btR_le a0 a1
  have SC := specBetween_any a0 a1
  have IC := implBetween_any a0 a1
  unfold OwnsL at SC IC
  rw [flat_mk (btR_all a0 a1)] at SC IC
  generalize (vdO a0 && vdO a1) = ok at *
  generalize (btR a0 a1).length = n at *
  generalize flatF (btR a0 a1) = h at *
  have SC := Lib.hid SC
  have IC := Lib.hid IC
  go_enter Try.func7, Try.ntmps7
  go_wp2_with fail
  generalize (w.alloc (.cells (mk 16 a0) 25)).alloc (.cells (mk 16 a1) 25) = w0 at *
  have x0 := fun (W : World) (h : Blk W w.heap.size 16 a0 25) => h.cell (i := 0) (by omega)
  have x1 := fun (W : World) (h : Blk W w.heap.size 16 a0 25) => h.cell (i := 1) (by omega)
  have x2 := fun (W : World) (h : Blk W w.heap.size 16 a0 25) => h.cell (i := 2) (by omega)
  have x3 := fun (W : World) (h : Blk W w.heap.size 16 a0 25) => h.cell (i := 3) (by omega)
  have x4 := fun (W : World) (h : Blk W w.heap.size 16 a0 25) => h.cell (i := 4) (by omega)
  have x5 := fun (W : World) (h : Blk W w.heap.size 16 a0 25) => h.cell (i := 5) (by omega)
  have x6 := fun (W : World) (h : Blk W w.heap.size 16 a0 25) => h.cell (i := 6) (by omega)
  have x7 := fun (W : World) (h : Blk W w.heap.size 16 a0 25) => h.cell (i := 7) (by omega)
  have x8 := fun (W : World) (h : Blk W w.heap.size 16 a0 25) => h.cell (i := 8) (by omega)
  have x9 := fun (W : World) (h : Blk W w.heap.size 16 a0 25) => h.cell (i := 9) (by omega)
  have x10 := fun (W : World) (h : Blk W w.heap.size 16 a0 25) => h.cell (i := 10) (by omega)
  have x11 := fun (W : World) (h : Blk W w.heap.size 16 a0 25) => h.cell (i := 11) (by omega)
  have x12 := fun (W : World) (h : Blk W w.heap.size 16 a0 25) => h.cell (i := 12) (by omega)
  have x13 := fun (W : World) (h : Blk W w.heap.size 16 a0 25) => h.cell (i := 13) (by omega)
  have x14 := fun (W : World) (h : Blk W w.heap.size 16 a0 25) => h.cell (i := 14) (by omega)
  have x15 := fun (W : World) (h : Blk W w.heap.size 16 a0 25) => h.cell (i := 15) (by omega)
  have xe : (#[.int .i64 (a0 0), .int .i64 (a0 1), .int .i64 (a0 2), .int .i64 (a0 3), .int .i64 (a0 4), .int .i64 (a0 5), .int .i64 (a0 6), .int .i64 (a0 7), .int .i64 (a0 8), .int .i64 (a0 9), .int .i64 (a0 10), .int .i64 (a0 11), .int .i64 (a0 12), .int .i64 (a0 13), .int .i64 (a0 14), .int .i64 (a0 15)] : Array Value) = mk 16 a0 := rfl
  have y0 := fun (W : World) (h : Blk W (w.heap.size + 1) 16 a1 25) => h.cell (i := 0) (by omega)
  have y1 := fun (W : World) (h : Blk W (w.heap.size + 1) 16 a1 25) => h.cell (i := 1) (by omega)
  have y2 := fun (W : World) (h : Blk W (w.heap.size + 1) 16 a1 25) => h.cell (i := 2) (by omega)
  have y3 := fun (W : World) (h : Blk W (w.heap.size + 1) 16 a1 25) => h.cell (i := 3) (by omega)
  have y4 := fun (W : World) (h : Blk W (w.heap.size + 1) 16 a1 25) => h.cell (i := 4) (by omega)
  have y5 := fun (W : World) (h : Blk W (w.heap.size + 1) 16 a1 25) => h.cell (i := 5) (by omega)
  have y6 := fun (W : World) (h : Blk W (w.heap.size + 1) 16 a1 25) => h.cell (i := 6) (by omega)
  have y7 := fun (W : World) (h : Blk W (w.heap.size + 1) 16 a1 25) => h.cell (i := 7) (by omega)
  have y8 := fun (W : World) (h : Blk W (w.heap.size + 1) 16 a1 25) => h.cell (i := 8) (by omega)
  have y9 := fun (W : World) (h : Blk W (w.heap.size + 1) 16 a1 25) => h.cell (i := 9) (by omega)
  have y10 := fun (W : World) (h : Blk W (w.heap.size + 1) 16 a1 25) => h.cell (i := 10) (by omega)
  have y11 := fun (W : World) (h : Blk W (w.heap.size + 1) 16 a1 25) => h.cell (i := 11) (by omega)
  have y12 := fun (W : World) (h : Blk W (w.heap.size + 1) 16 a1 25) => h.cell (i := 12) (by omega)
  have y13 := fun (W : World) (h : Blk W (w.heap.size + 1) 16 a1 25) => h.cell (i := 13) (by omega)
  have y14 := fun (W : World) (h : Blk W (w.heap.size + 1) 16 a1 25) => h.cell (i := 14) (by omega)
  have y15 := fun (W : World) (h : Blk W (w.heap.size + 1) 16 a1 25) => h.cell (i := 15) (by omega)
  have ye : (#[.int .i64 (a1 0), .int .i64 (a1 1), .int .i64 (a1 2), .int .i64 (a1 3), .int .i64 (a1 4), .int .i64 (a1 5), .int .i64 (a1 6), .int .i64 (a1 7), .int .i64 (a1 8), .int .i64 (a1 9), .int .i64 (a1 10), .int .i64 (a1 11), .int .i64 (a1 12), .int .i64 (a1 13), .int .i64 (a1 14), .int .i64 (a1 15)] : Array Value) = mk 16 a1 := rfl
  go_cut [5, 6] from 13 to 20 (fun s5 s6 wc => ∃ g1 c1, s5 = .slice (some ⟨g1, 0, none⟩) n c1 ∧ s6 = .bool ok ∧ Blk wc w.heap.size 16 a0 25 ∧ Blk wc (w.heap.size + 1) 16 a1 25 ∧ Hid (Below w.heap.size w wc) ∧ Hid (KRow 4 wc (.slice (some ⟨g1, 0, none⟩) n c1) n h))
  case first => as_aux_lemma =>
    go_region_held3 (fun w' => Blk w' w.heap.size 16 a0 25 ∧ Blk w' (w.heap.size + 1) 16 a1 25 ∧ Below w.heap.size w w') (first | exact ⟨K0.drew, K1.drew, HB.out.drew⟩ | assumption) (first | (go_at_call 14; (first | (with_reducible refine (toBoard_any a0 _).mono ?_) | (with_reducible refine (toBoard_any a1 _).mono ?_)); rintro e w6 ⟨rfl, hb6⟩; have J := heldL_step (by assumption) hb6; clear hb6) | (go_at_call 31; refine (Hid.out SC _).mono ?_; rintro e wz ⟨g1, c1, rfl, ho, hb7⟩; have J := heldL_step (by assumption) hb7; obtain ⟨base, HO, HW⟩ := own_pack1 ho (by assumption) hb7; clear ho hb7) | fail)
    all_goals
      have Q : Blk wz w.heap.size 16 a0 25 ∧ Blk wz (w.heap.size + 1) 16 a1 25 ∧ Below w.heap.size w wz := by assumption
      obtain ⟨K0, K1, hb⟩ := Q
      have HB := Lib.hid hb
      have R1 := Lib.hid (KRow.of_own HO.out)
      clear hb HO HW
      go_wp2_with fail
      go_meet
      case rel => exact ⟨g1, c1, rfl, rfl, K0, K1, HB, R1⟩
  case rest =>
    obtain ⟨g1, c1, rfl, rfl, K0, K1, HB, R1⟩ := hcut
    go_wp2_with fail
    go_cut [7, 8] from 21 to 28 (fun s7 s8 wc => ∃ g2 c2 base, s7 = .slice (some ⟨g2, 0, none⟩) n c2 ∧ s8 = .bool ok ∧ Blk wc w.heap.size 16 a0 25 ∧ Blk wc (w.heap.size + 1) 16 a1 25 ∧ Hid (Below w.heap.size w wc) ∧ Hid (KRow 4 wc (.slice (some ⟨g1, 0, none⟩) n c1) n h) ∧ Hid (wc.ownsRow base 33 4 (.slice (some ⟨g2, 0, none⟩) n c2) n (mk (n * 4) h).toList) ∧ Hid (w.heap.size < base ∧ w.heap.size + 1 < base ∧ w.heap.size ≤ base ∧ base ≤ wc.heap.size ∧ ∀ w', Below base wc w' → KRow 4 w' (.slice (some ⟨g1, 0, none⟩) n c1) n h))
    case first => as_aux_lemma =>
      go_region_held3 (fun w' => Blk w' w.heap.size 16 a0 25 ∧ Blk w' (w.heap.size + 1) 16 a1 25 ∧ Below w.heap.size w w' ∧ KRow 4 w' (.slice (some ⟨g1, 0, none⟩) n c1) n h) (first | exact ⟨K0.drew, K1.drew, HB.out.drew, R1.out⟩ | assumption) (first | (go_at_call 14; (first | (with_reducible refine (toBoard_any a0 _).mono ?_) | (with_reducible refine (toBoard_any a1 _).mono ?_)); rintro e w6 ⟨rfl, hb6⟩; have J := q2_step (by assumption) hb6; clear hb6) | (go_at_call 32; refine (Hid.out IC _).mono ?_; rintro e wz ⟨g2, c2, rfl, ho, hb7⟩; have J := q2_step (by assumption) hb7; obtain ⟨base, HO, HW⟩ := own_pack2 ho (by assumption) hb7; clear ho hb7) | fail)
      all_goals
        have Q : Blk wz w.heap.size 16 a0 25 ∧ Blk wz (w.heap.size + 1) 16 a1 25 ∧ Below w.heap.size w wz ∧ KRow 4 wz (.slice (some ⟨g1, 0, none⟩) n c1) n h := by assumption
        obtain ⟨K0, K1, hb, r1⟩ := Q
        have HB := Lib.hid hb
        have R1 := Lib.hid r1
        clear hb r1
        go_wp2_with fail
        go_meet
        case rel => exact ⟨g2, c2, base, rfl, rfl, K0, K1, HB, R1, HO, HW⟩
    case rest =>
      obtain ⟨g2, c2, base, rfl, rfl, K0, K1, HB, R1, HO, HW⟩ := hcut
      go_wp2_with fail
      refine (eqT_yes _ _ n h _ (KRow.of_own HO.out) R1.out (by omega)).mono ?_
      rintro e wa ⟨rfl, hb⟩
      have HO : Hid (wa.ownsRow base 33 4 (.slice (some ⟨g2, 0, none⟩) n c2) n (mk (n * 4) h).toList) := owns_below HO.out hb
      have K0 := K0.below hb K0.lt
      have K1 := K1.below hb K1.lt
      have HB : Hid (Below w.heap.size w wa) := below3 HB.out hb
      have HP : Hid (∀ w', Below base wa w' → KRow 4 w' (.slice (some ⟨g1, 0, none⟩) n c1) n h) := fun w' h' => HW.out.2.2.2.2 w' ((hb.mono HW.out.2.2.2.1).trans h')
      have HL : Hid (w.heap.size < base ∧ w.heap.size + 1 < base ∧ w.heap.size ≤ base) := ⟨HW.out.1, HW.out.2.1, HW.out.2.2.1⟩
      clear hb HW R1
      cases ok with
      | false => as_aux_lemma =>
        go_wp2_with fail
        refine (markT_row g2 c2 n base h _ HO.out (by omega)).mono ?_
        rintro e wb ⟨rfl, ho, hb⟩
        have R1 := Lib.hid (HP.out _ hb)
        have R2 := Lib.hid (KRow.of_own ho)
        have K0 := K0.below hb HL.out.1
        have K1 := K1.below hb HL.out.2.1
        have HB : Hid (Below w.heap.size w wb) := HB.out.trans (hb.mono HL.out.2.2)
        clear ho hb HO HP HL
        go_wp2_with fail
        refine (heldT_row _ n _ R2.out (by omega)).mono ?_
        rintro e w8 ⟨rfl, rfl⟩
        go_wp2_with fail
        go_cut [11, 12] from 49 to 56 (fun s11 s12 wc => ∃ g3 c3, s11 = .slice (some ⟨g3, 0, none⟩) n c3 ∧ s12 = .bool false ∧ Hid (Below w.heap.size w wc) ∧ Hid (KRow 4 wc (.slice (some ⟨g1, 0, none⟩) n c1) n h) ∧ Hid (KRow 4 wc (.slice (some ⟨g2, 0, none⟩) n c2) n (fun j => ((1 + j : Nat) : Int))) ∧ Hid (KRow 4 wc (.slice (some ⟨g3, 0, none⟩) n c3) n h))
        case first => as_aux_lemma =>
          go_region_held3 (fun w' => Blk w' w.heap.size 16 a0 25 ∧ Blk w' (w.heap.size + 1) 16 a1 25 ∧ Below w.heap.size w w' ∧ KRow 4 w' (.slice (some ⟨g1, 0, none⟩) n c1) n h ∧ KRow 4 w' (.slice (some ⟨g2, 0, none⟩) n c2) n (fun j => ((1 + j : Nat) : Int))) (first | exact ⟨K0.drew, K1.drew, HB.out.drew, R1.out, R2.out⟩ | assumption) (first | (go_at_call 14; (first | (with_reducible refine (toBoard_any a0 _).mono ?_) | (with_reducible refine (toBoard_any a1 _).mono ?_)); rintro e w6 ⟨rfl, hb6⟩; have J := q3_step (by assumption) hb6; clear hb6) | (go_at_call 32; refine (Hid.out IC _).mono ?_; rintro e wz ⟨g3, c3, rfl, ho, hb7⟩; have J := q3_step (by assumption) hb7; obtain ⟨base, HO, HW⟩ := own_pack3 ho (by assumption) hb7; clear ho hb7) | fail)
          all_goals
            have Q : Blk wz w.heap.size 16 a0 25 ∧ Blk wz (w.heap.size + 1) 16 a1 25 ∧ Below w.heap.size w wz ∧ KRow 4 wz (.slice (some ⟨g1, 0, none⟩) n c1) n h ∧ KRow 4 wz (.slice (some ⟨g2, 0, none⟩) n c2) n (fun j => ((1 + j : Nat) : Int)) := by assumption
            obtain ⟨K0, K1, hb, r1, r2⟩ := Q
            have HB := Lib.hid hb
            have R1 := Lib.hid r1
            have R2 := Lib.hid r2
            have R3 := Lib.hid (KRow.of_own HO.out)
            clear hb r1 r2
            go_wp2_with fail
            go_meet
            case rel => exact ⟨g3, c3, rfl, rfl, HB, R1, R2, R3⟩
        case rest =>
          obtain ⟨g3, c3, rfl, rfl, HB, R1, R2, R3⟩ := hcut
          go_wp2_with fail
          refine (eqT_yes _ _ n h _ R3.out R1.out (by omega)).mono ?_
          rintro e wd ⟨rfl, hb⟩
          have R2 := Lib.hid (R2.out.below hb)
          have HB : Hid (Below w.heap.size w wd) := below3 HB.out hb
          clear hb
          go_wp2_with fail
          refine (heldT_row _ n _ R2.out (by omega)).mono ?_
          rintro e we ⟨rfl, rfl⟩
          go_wp2_with fail
          go_ret
          exact ⟨rfl, HB.out⟩
      | true => as_aux_lemma =>
        go_wp2_with fail
        refine (markT_row g2 c2 n base h _ HO.out (by omega)).mono ?_
        rintro e wb ⟨rfl, ho, hb⟩
        have R1 := Lib.hid (HP.out _ hb)
        have R2 := Lib.hid (KRow.of_own ho)
        have K0 := K0.below hb HL.out.1
        have K1 := K1.below hb HL.out.2.1
        have HB : Hid (Below w.heap.size w wb) := HB.out.trans (hb.mono HL.out.2.2)
        clear ho hb HO HP HL
        go_wp2_with fail
        refine (heldT_row _ n _ R2.out (by omega)).mono ?_
        rintro e w8 ⟨rfl, rfl⟩
        go_wp2_with fail
        go_cut [11, 12] from 49 to 56 (fun s11 s12 wc => ∃ g3 c3, s11 = .slice (some ⟨g3, 0, none⟩) n c3 ∧ s12 = .bool true ∧ Hid (Below w.heap.size w wc) ∧ Hid (KRow 4 wc (.slice (some ⟨g1, 0, none⟩) n c1) n h) ∧ Hid (KRow 4 wc (.slice (some ⟨g2, 0, none⟩) n c2) n (fun j => ((1 + j : Nat) : Int))) ∧ Hid (KRow 4 wc (.slice (some ⟨g3, 0, none⟩) n c3) n h))
        case first => as_aux_lemma =>
          go_region_held3 (fun w' => Blk w' w.heap.size 16 a0 25 ∧ Blk w' (w.heap.size + 1) 16 a1 25 ∧ Below w.heap.size w w' ∧ KRow 4 w' (.slice (some ⟨g1, 0, none⟩) n c1) n h ∧ KRow 4 w' (.slice (some ⟨g2, 0, none⟩) n c2) n (fun j => ((1 + j : Nat) : Int))) (first | exact ⟨K0.drew, K1.drew, HB.out.drew, R1.out, R2.out⟩ | assumption) (first | (go_at_call 14; (first | (with_reducible refine (toBoard_any a0 _).mono ?_) | (with_reducible refine (toBoard_any a1 _).mono ?_)); rintro e w6 ⟨rfl, hb6⟩; have J := q3_step (by assumption) hb6; clear hb6) | (go_at_call 32; refine (Hid.out IC _).mono ?_; rintro e wz ⟨g3, c3, rfl, ho, hb7⟩; have J := q3_step (by assumption) hb7; obtain ⟨base, HO, HW⟩ := own_pack3 ho (by assumption) hb7; clear ho hb7) | fail)
          all_goals
            have Q : Blk wz w.heap.size 16 a0 25 ∧ Blk wz (w.heap.size + 1) 16 a1 25 ∧ Below w.heap.size w wz ∧ KRow 4 wz (.slice (some ⟨g1, 0, none⟩) n c1) n h ∧ KRow 4 wz (.slice (some ⟨g2, 0, none⟩) n c2) n (fun j => ((1 + j : Nat) : Int)) := by assumption
            obtain ⟨K0, K1, hb, r1, r2⟩ := Q
            have HB := Lib.hid hb
            have R1 := Lib.hid r1
            have R2 := Lib.hid r2
            have R3 := Lib.hid (KRow.of_own HO.out)
            clear hb r1 r2
            go_wp2_with fail
            go_meet
            case rel => exact ⟨g3, c3, rfl, rfl, HB, R1, R2, R3⟩
        case rest =>
          obtain ⟨g3, c3, rfl, rfl, HB, R1, R2, R3⟩ := hcut
          go_wp2_with fail
          refine (eqT_yes _ _ n h _ R3.out R1.out (by omega)).mono ?_
          rintro e wd ⟨rfl, hb⟩
          have R2 := Lib.hid (R2.out.below hb)
          have HB : Hid (Below w.heap.size w wd) := below3 HB.out hb
          clear hb
          go_wp2_with fail
          refine (heldT_row _ n _ R2.out (by omega)).mono ?_
          rintro e we ⟨rfl, rfl⟩
          go_wp2_with fail
          go_ret
          exact ⟨rfl, HB.out⟩

noncomputable def laidWorld (os : Os) : World := World.holding Try.prog os ⟨#[], #[], []⟩
theorem laid_met (os : Os) : laidMet Try.prog Rows.fnExactStepBetweenRow.laid ((laidWorld os).forCall (fun _ _ => 0) ⟨#[], #[.agg #[.int .i64 0, .int .i64 0, .int .i64 0, .int .i64 0, .int .i64 0, .int .i64 0, .int .i64 0, .int .i64 0, .int .i64 0, .int .i64 0, .int .i64 0, .int .i64 0, .int .i64 0, .int .i64 0, .int .i64 0, .int .i64 0], .agg #[.int .i64 0, .int .i64 0, .int .i64 0, .int .i64 0, .int .i64 0, .int .i64 0, .int .i64 0, .int .i64 0, .int .i64 0, .int .i64 0, .int .i64 0, .int .i64 0, .int .i64 0, .int .i64 0, .int .i64 0, .int .i64 0]], []⟩).memory := laidMet_of_run' 8 (by kernel_rfl) (by kernel_rfl)
theorem reads (os : Os) {H : Type} (enc : TypeId × Value → H) : ∃ places, DataW.whole enc Try.prog ((laidWorld os).forCall (fun _ _ => 0) ⟨#[], #[.agg #[.int .i64 0, .int .i64 0, .int .i64 0, .int .i64 0, .int .i64 0, .int .i64 0, .int .i64 0, .int .i64 0, .int .i64 0, .int .i64 0, .int .i64 0, .int .i64 0, .int .i64 0, .int .i64 0, .int .i64 0, .int .i64 0], .agg #[.int .i64 0, .int .i64 0, .int .i64 0, .int .i64 0, .int .i64 0, .int .i64 0, .int .i64 0, .int .i64 0, .int .i64 0, .int .i64 0, .int .i64 0, .int .i64 0, .int .i64 0, .int .i64 0, .int .i64 0, .int .i64 0]], []⟩).memory Try.f7.params.toList Rows.fnExactStepBetweenSpec.vars false #[.agg #[.int .i64 0, .int .i64 0, .int .i64 0, .int .i64 0, .int .i64 0, .int .i64 0, .int .i64 0, .int .i64 0, .int .i64 0, .int .i64 0, .int .i64 0, .int .i64 0, .int .i64 0, .int .i64 0, .int .i64 0, .int .i64 0], .agg #[.int .i64 0, .int .i64 0, .int .i64 0, .int .i64 0, .int .i64 0, .int .i64 0, .int .i64 0, .int .i64 0, .int .i64 0, .int .i64 0, .int .i64 0, .int .i64 0, .int .i64 0, .int .i64 0, .int .i64 0, .int .i64 0]].toList 8 = some ([.agg [.agg [.agg [.lit (.int .i64 0), .lit (.int .i64 0), .lit (.int .i64 0), .lit (.int .i64 0)], .agg [.lit (.int .i64 0), .lit (.int .i64 0), .lit (.int .i64 0), .lit (.int .i64 0)], .agg [.lit (.int .i64 0), .lit (.int .i64 0), .lit (.int .i64 0), .lit (.int .i64 0)], .agg [.lit (.int .i64 0), .lit (.int .i64 0), .lit (.int .i64 0), .lit (.int .i64 0)]]], .agg [.agg [.agg [.lit (.int .i64 0), .lit (.int .i64 0), .lit (.int .i64 0), .lit (.int .i64 0)], .agg [.lit (.int .i64 0), .lit (.int .i64 0), .lit (.int .i64 0), .lit (.int .i64 0)], .agg [.lit (.int .i64 0), .lit (.int .i64 0), .lit (.int .i64 0), .lit (.int .i64 0)], .agg [.lit (.int .i64 0), .lit (.int .i64 0), .lit (.int .i64 0), .lit (.int .i64 0)]]]], [], places) :=
  ⟨[], by kernel_rfl⟩
set_option linter.unusedVariables false in
set_option maxRecDepth 100000 in
theorem lifted (os : Os) (started : os.Started) (H : Type) (enc : TypeId × Value → H) (F : Stop.Interp) :
    ReturnsInHanded {} Try.checked os 7 .any ((OpenSpec.ofChange Rows.fnExactStepBetweenSpec).preRow enc Try.prog Try.f7 Rows.fnExactStepBetweenRow.domain false Rows.fnExactStepBetweenRow.laid) (((OpenSpec.ofChange Rows.fnExactStepBetweenSpec).at F).post enc Try.prog Try.f7 false true false false) := by
  obtain ⟨places, hx⟩ := reads os enc
  refine returnsInHanded_of_row (C := Try.checked) (s := (OpenSpec.ofChange Rows.fnExactStepBetweenSpec)) own started (by kernel_rfl) Try.func7
    (witness_row_at (enc := enc) (C := Try.checked) false (laidWorld os) #[.agg #[.int .i64 0, .int .i64 0, .int .i64 0, .int .i64 0, .int .i64 0, .int .i64 0, .int .i64 0, .int .i64 0, .int .i64 0, .int .i64 0, .int .i64 0, .int .i64 0, .int .i64 0, .int .i64 0, .int .i64 0, .int .i64 0], .agg #[.int .i64 0, .int .i64 0, .int .i64 0, .int .i64 0, .int .i64 0, .int .i64 0, .int .i64 0, .int .i64 0, .int .i64 0, .int .i64 0, .int .i64 0, .int .i64 0, .int .i64 0, .int .i64 0, .int .i64 0, .int .i64 0]] rfl (by kernel_rfl) (by kernel_rfl) (by kernel_rfl)
      (OpenSpec.preRow_of_cond 8 hx (by kernel_rfl) (fun k hk => by cases hk) (by kernel_rfl) (laid_met os))) ?_
  intro W base args ds gs before hval0 hW _ hcond hsz hL hsh _
  have hval : ∀ (j : Nat) t v, Try.f7.params[j]? = some t → args[j]? = some v → Value.okWide Try.prog W .any base t v := hval0
  have hW' := hW
  obtain ⟨p, q, hA0, hV, rfl, hfz, hnd⟩ := hW
  have hA : DataW.TrodAll enc Try.prog W 0 (fun _ => true) true Try.f7.params.toList args.toList ds p := hA0
  rw [Try.params7] at hA hval
  obtain ⟨v0, vs0, d0, ds0, p0, q0, hargs, rfl, rfl, h0, r0⟩ := trodAll_cons hA
  obtain ⟨v1, vs1, d1, ds1, p1, q1, rfl, rfl, rfl, h1, r1⟩ := trodAll_cons r0
  obtain ⟨rfl, rfl, rfl⟩ := trodAll_nil r1
  obtain rfl : args = #[v0, v1] := by cases args; simp_all
  obtain ⟨rfl, rfl⟩ := trodVars_none hV
  obtain ⟨a0, rfl, w0⟩ := open_board_at Try.underlying25 rfl rfl Try.underlying23 Try.underlying22 Try.underlying3 cellsK cellsG cellsR cellsI (hval 0 25 v0 rfl rfl) h0
  have k0 := h0
  have lt0 : ∀ x ∈ p0, x.block < W.heap.size := by obtain ⟨m, hm⟩ := k0; exact DataW.trod_lt m _ _ _ hm
  obtain ⟨a1, rfl, w1⟩ := open_board_at Try.underlying25 rfl rfl Try.underlying23 Try.underlying22 Try.underlying3 cellsK cellsG cellsR cellsI (hval 1 25 v1 rfl rfl) h1
  have k1 := h1
  have lt1 : ∀ x ∈ p1, x.block < W.heap.size := by obtain ⟨m, hm⟩ := k1; exact DataW.trod_lt m _ _ _ hm
  clear hA0 hval0
  have hwalk : Calls Try.prog 7 #[.agg (mk 16 a0), .agg (mk 16 a1)] W fun e w' => e = .returned (.bool true) ∧ Below W.heap.size W w' := walk a0 w0 a1 w1 W hsh
  refine hwalk.mono fun e W' ⟨he, bel⟩ => ?_
  subst he
  exact ⟨_, rfl, _, _, _, [], _, [], hW', trodAll_mk1 (shut_bool Try.underlying4 _), (trodAll_cons_mk (Below.trod laidOut (by kernel_rfl) (of_decide_eq_true (by kernel_rfl)) k0 bel lt0) (trodAll_cons_mk (Below.trod laidOut (by kernel_rfl) (of_decide_eq_true (by kernel_rfl)) k1 bel lt1) trodAll_mk0)), rfl, bel.frame _, fun h => by cases h⟩
theorem closed : joinedFacts Try.pinned.checked.prog 7 Try.f7 ((OpenSpec.ofChange Rows.fnExactStepBetweenSpec)).bare Rows.fnExactStepBetweenRow = true := by
  unfold joinedFacts
  repeat' with_reducible refine and_mk ?_ ?_
  case refine_1.refine_1.refine_1.refine_1.refine_1.refine_1.refine_2 => exact enters
  case refine_1.refine_1.refine_1.refine_1.refine_1.refine_2 => exact (show (Rows.fnExactStepBetweenRow.lifted == Try.prog.liftsFinal) = true by rw [final_no]; rfl)
  case refine_1.refine_1.refine_1.refine_1.refine_2 => exact (show (Try.prog.make == some Rows.fnExactStepBetweenRow.make) = true by rw [make_cut]; rfl)
  case refine_1.refine_1.refine_1.refine_1.refine_1.refine_1.refine_1.refine_1.refine_1.refine_1.refine_1.refine_1.refine_1.refine_1.refine_1.refine_1.refine_1.refine_1.refine_1.refine_1.refine_1.refine_1.refine_1.refine_1.refine_1.refine_1.refine_1.refine_1.refine_1.refine_1.refine_2 => exact laidOut
  case refine_1.refine_1.refine_1.refine_1.refine_1.refine_1.refine_1.refine_1.refine_1.refine_1.refine_1.refine_1.refine_1.refine_1.refine_1.refine_1.refine_1.refine_1.refine_1.refine_1.refine_1.refine_1.refine_1.refine_1.refine_1.refine_1.refine_1.refine_1.refine_1.refine_2 => exact maps_rowed
  case refine_1.refine_1.refine_1.refine_1.refine_1.refine_1.refine_1.refine_2 => exact stops_heard
  all_goals (as_aux_lemma => kernel_rfl)
theorem proved : Rows.FnExactStepBetweenSaid :=
  OpenClaim.holds_of_cond 7 Try.f7 rfl rfl rfl rfl rfl rfl rfl ⟨rfl, rfl, rfl, rfl, rfl⟩ rfl rfl rfl rfl rfl (by kernel_rfl) Try.func7 closed
    (of_decide_eq_true (by kernel_rfl)) (by unfold Func.isWrapper; first | (rw [if_pos (by decide +kernel)]; kernel_rfl) | (rw [if_neg (by decide +kernel)]; exact ⟨rfl, rfl⟩))
    (fun os started H enc _ F => by rw [OpenClaim.pre_eq_preRow]; exact lifted os started H enc F)
#print axioms proved
end Go.Proofs.Ytknjmkapabjolaa.fnExactStepBetween
