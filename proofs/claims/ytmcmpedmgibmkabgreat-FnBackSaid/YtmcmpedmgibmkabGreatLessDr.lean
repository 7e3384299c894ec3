/-
  Several texts in one:
  The contracts of LessBoard, in the reference and in the program, and of slices.Compare of four integers.
  The contracts of the program's IsBoard, LessBoard and of the function that it hands to a sort of boards, with what they draw told.
-/
import Derived.Test.YtmcmpedmgibmkabGreatBaseA
import Derived.Test.YtmcmpedmgibmkabGreatPlainA
import Derived.Deep.QuietTactic
import Derived.BigQuiet
import Derived.Deep.RegionHeld3
namespace Go.Proofs.YtmcmpedmgibmkabGreat
open Go.RowKit Plain
attribute [local go_sem] store_new

theorem isNaN_any (x : Int) (w : World) : Calls Tryz.prog 97 #[.int .i64 x] w fun e w' => e = .returned (.bool false) ∧ w = w' := by
  have h : (x != x) = false := by simp
  go_enter Tryz.func97, Tryz.ntmps97
  go_wp2_with fail
  go_ret
  exact ⟨rfl, rfl⟩
theorem cmp_lt (x y : Int) (w : World) (h : x < y) : Calls Tryz.prog 75 #[.int .i64 x, .int .i64 y] w fun e w' => e = .returned (.int .i64 (-1)) ∧ w = w' := by
  have h2 : ¬ y < x := by omega
  go_enter Tryz.func75, Tryz.ntmps75
  go_wp2_with fail
  refine (isNaN_any _ _).mono ?_
  rintro e w1 ⟨rfl, rfl⟩
  go_wp2_with fail
  refine (isNaN_any _ _).mono ?_
  rintro e w2 ⟨rfl, rfl⟩
  go_wp2_with fail
  go_ret
  exact ⟨rfl, rfl⟩
theorem cmp_gt (x y : Int) (w : World) (h : y < x) : Calls Tryz.prog 75 #[.int .i64 x, .int .i64 y] w fun e w' => e = .returned (.int .i64 1) ∧ w = w' := by
  have h2 : ¬ x < y := by omega
  go_enter Tryz.func75, Tryz.ntmps75
  go_wp2_with fail
  refine (isNaN_any _ _).mono ?_
  rintro e w1 ⟨rfl, rfl⟩
  go_wp2_with fail
  refine (isNaN_any _ _).mono ?_
  rintro e w2 ⟨rfl, rfl⟩
  go_wp2_with fail
  go_ret
  exact ⟨rfl, rfl⟩
theorem cmp_eq (x : Int) (w : World) : Calls Tryz.prog 75 #[.int .i64 x, .int .i64 x] w fun e w' => e = .returned (.int .i64 0) ∧ w = w' := by
  have h : ¬ x < x := by omega
  go_enter Tryz.func75, Tryz.ntmps75
  go_wp2_with fail
  refine (isNaN_any _ _).mono ?_
  rintro e w1 ⟨rfl, rfl⟩
  go_wp2_with fail
  refine (isNaN_any _ _).mono ?_
  rintro e w2 ⟨rfl, rfl⟩
  go_wp2_with fail
  go_ret
  exact ⟨rfl, rfl⟩
/-- slices.Compare of two rows of four that differ first at the place c. -/
theorem compare_lt (b1 o1 b2 o2 p q : Nat) (f g : Nat → Int) (c : Nat) (w : World) (hc : c < 4) (he : ∀ i, i < c → f i = g i) (hd : f c < g c)
    (h1 : ∀ j, j < 4 → w.cell? ⟨b1, o1 + j, none⟩ = some (.int .i64 (f j))) (h2 : ∀ j, j < 4 → w.cell? ⟨b2, o2 + j, none⟩ = some (.int .i64 (g j))) :
    Calls Tryz.prog 54 #[.slice (some ⟨b1, o1, none⟩) 4 p, .slice (some ⟨b2, o2, none⟩) 4 q] w fun e w' => e = .returned (.int .i64 (-1)) ∧ w = w' := by
  have HE := Lib.hid he
  have HD := Lib.hid hd
  have H1 := Lib.hid h1
  have H2 := Lib.hid h2
  clear he hd h1 h2
  go_enter Tryz.func54, Tryz.ntmps54
  go_wp2_with fail
  go_loop [11] (fun i => ∃ k : Nat, k ≤ c ∧ i = .int .i64 k) (fun i => 4 - (intOf i).toNat)
  case atStart => exact ⟨0, Nat.zero_le _, rfl⟩
  case round =>
    obtain ⟨k, hk, rfl⟩ := hrel
    have hk0 : (0 : Int) ≤ (k : Int) := by omega
    have hk4 : (k : Int) < 4 := by omega
    have c1 := H1.out k (by omega)
    have c2 := H2.out k (by omega)
    by_cases hkc : k < c
    · rw [← HE.out k hkc] at c2
      generalize f k = x at c1 c2
      go_wp2_with fail
      refine (cmp_eq _ _).mono ?_
      rintro e w1 ⟨rfl, rfl⟩
      go_wp2_with fail
      go_round
      case rel => exact ⟨k + 1, by omega, by go_num⟩
      case measure => simp [intOf]; omega
    · obtain rfl : k = c := by omega
      go_wp2_with fail
      refine (cmp_lt _ _ _ HD.out).mono ?_
      rintro e w1 ⟨rfl, rfl⟩
      go_wp2_with fail
      go_ret
      exact ⟨rfl, rfl⟩
/-- slices.Compare of two rows of four that differ first at the place c. -/
theorem compare_gt (b1 o1 b2 o2 p q : Nat) (f g : Nat → Int) (c : Nat) (w : World) (hc : c < 4) (he : ∀ i, i < c → f i = g i) (hd : g c < f c)
    (h1 : ∀ j, j < 4 → w.cell? ⟨b1, o1 + j, none⟩ = some (.int .i64 (f j))) (h2 : ∀ j, j < 4 → w.cell? ⟨b2, o2 + j, none⟩ = some (.int .i64 (g j))) :
    Calls Tryz.prog 54 #[.slice (some ⟨b1, o1, none⟩) 4 p, .slice (some ⟨b2, o2, none⟩) 4 q] w fun e w' => e = .returned (.int .i64 1) ∧ w = w' := by
  have HE := Lib.hid he
  have HD := Lib.hid hd
  have H1 := Lib.hid h1
  have H2 := Lib.hid h2
  clear he hd h1 h2
  go_enter Tryz.func54, Tryz.ntmps54
  go_wp2_with fail
  go_loop [11] (fun i => ∃ k : Nat, k ≤ c ∧ i = .int .i64 k) (fun i => 4 - (intOf i).toNat)
  case atStart => exact ⟨0, Nat.zero_le _, rfl⟩
  case round =>
    obtain ⟨k, hk, rfl⟩ := hrel
    have hk0 : (0 : Int) ≤ (k : Int) := by omega
    have hk4 : (k : Int) < 4 := by omega
    have c1 := H1.out k (by omega)
    have c2 := H2.out k (by omega)
    by_cases hkc : k < c
    · rw [← HE.out k hkc] at c2
      generalize f k = x at c1 c2
      go_wp2_with fail
      refine (cmp_eq _ _).mono ?_
      rintro e w1 ⟨rfl, rfl⟩
      go_wp2_with fail
      go_round
      case rel => exact ⟨k + 1, by omega, by go_num⟩
      case measure => simp [intOf]; omega
    · obtain rfl : k = c := by omega
      go_wp2_with fail
      refine (cmp_gt _ _ _ HD.out).mono ?_
      rintro e w1 ⟨rfl, rfl⟩
      go_wp2_with fail
      go_ret
      exact ⟨rfl, rfl⟩

end Go.Proofs.YtmcmpedmgibmkabGreat
namespace Go.Proofs.YtmcmpedmgibmkabGreat.Dr
open Go.RowKit Plain
attribute [local go_sem] store_new

/-- How a test of a board ends. -/
def VdPost (f : Nat → Int) (w : World) (e : Ending) (w' : World) : Prop :=
  ((Vd f ∧ e = .returned (.bool true)) ∨ (¬ Vd f ∧ e = .returned (.bool false))) ∧ Below w.heap.size w w'

set_option maxHeartbeats 400000 in
theorem implBoard_any (f : Nat → Int) (w : World) :
    Calls Tryz.prog 39 #[.agg (mk 16 f)] w (VdPost f w) := by
  have z4 := zero4
  have iG := idxG
  have iR := idxR
  go_enter Tryz.func39, Tryz.ntmps39
  go_wp2_with ((with_reducible show wpList _ _ _ (Oper.mk _ (Op.load 25 _) _ _ _ _ :: _) _ _); refine loadG (Blk.new _ _ _ _) rfl rfl rfl ?_)
  have HB := Lib.hid ((Below.refl w.heap.size w).alloc (Nat.le_refl _) (.cells (mk 16 f) 27))
  generalize w.alloc (.cells (mk 16 f) 27) = w1 at *
  go_loopg [9] 4 (fun g s9 wx => ∃ r : Nat, r + g = 4 ∧ s9 = .int .i64 r ∧ Hid (∀ j, j < r * 4 → 0 ≤ f j ∧ f j ≤ 17) ∧ Hid (Below w.heap.size w wx))
  case atStart => exact ⟨0, by omega, rfl, fun j hj => by omega, HB⟩
  case round =>
    obtain ⟨r, hrg, rfl, HV, hb⟩ := hrel
    cases gk with
    | zero =>
      have hr : ¬ ((r : Int) < 4) := by omega
      have HR : Hid (r = 4) := by show r = 4; omega
      clear hrg
      go_wp2_with fail
      go_ret
      exact ⟨.inl ⟨fun j hj => HV.out j (by rw [HR.out]; omega), rfl⟩, hb.out⟩
    | succ g =>
      have hr4 : (r : Int) < 4 := by omega
      have hr5 : r < 4 := by omega
      go_wp2_with ((with_reducible show wpList _ _ _ (Oper.mk _ (Op.load 24 _) _ _ _ _ :: _) _ _); refine loadR (Blk.new _ _ _ _) rfl rfl rfl ?_)
      have HB2 : Hid (Below w.heap.size w (wr.alloc (.cells (mk 4 fun c => f (r * 4 + c)) 24))) := hb.out.alloc hb.out.size _
      generalize wr.alloc (.cells (mk 4 fun c => f (r * 4 + c)) 24) = w2 at *
      go_loopg [13] 4 (fun h s13 wx => ∃ c : Nat, c + h = 4 ∧ s13 = .int .i64 c ∧ Hid (∀ j, j < r * 4 + c → 0 ≤ f j ∧ f j ≤ 17) ∧ w2 = wx)
      case atStart => exact ⟨0, by omega, rfl, HV, rfl⟩
      case round =>
        obtain ⟨c, hch, rfl, HW, rfl⟩ := hrel
        cases gk with
        | zero =>
          have hc : ¬ ((c : Int) < 4) := by omega
          go_wp2_with fail
          go_roundg g
          case rel => exact ⟨r + 1, by omega, by go_num, fun j hj => HW.out j (by omega), HB2⟩
          case measure => omega
        | succ h =>
          have hc : (c : Int) < 4 := by omega
          have hc5 : c < 4 := by omega
          have hi : r * 4 + c < 16 := by omega
          by_cases hx : 0 ≤ f (r * 4 + c) ∧ f (r * 4 + c) ≤ 17
          · have HX : Hid (∀ j, j < r * 4 + (c + 1) → 0 ≤ f j ∧ f j ≤ 17) := by
              intro j hj
              by_cases e : j = r * 4 + c
              · rw [e]; exact hx
              · exact HW.out j (by omega)
            obtain ⟨x0, x1⟩ := hx
            by_cases h0 : f (r * 4 + c) = 0
            · have d0 : (f (r * 4 + c) != 0) = false := by simpa using h0
              clear h0
              go_wp2_with fail
              go_roundg h
              case rel => exact ⟨c + 1, by omega, by go_num, HX, rfl⟩
              case measure => omega
            · have d0 : (f (r * 4 + c) != 0) = true := by simpa using h0
              have x2 : 1 ≤ f (r * 4 + c) := by omega
              clear h0
              go_wp2_with fail
              refine (isTile_yes _ _ x2 x1).mono ?_
              rintro e w' ⟨rfl, rfl⟩
              go_wp2_with fail
              go_roundg h
              case rel => exact ⟨c + 1, by omega, by go_num, HX, rfl⟩
              case measure => omega
          · have HN : Hid (¬ Vd f) := fun h => hx (h _ hi)
            have H := Lib.hid (show f (r * 4 + c) < 1 ∨ 17 < f (r * 4 + c) by omega)
            have d0 : (f (r * 4 + c) != 0) = true := by simp; omega
            clear hx
            go_wp2_with fail
            refine (isTile_no _ _ H.out).mono ?_
            rintro e w' ⟨rfl, rfl⟩
            go_wp2_with fail
            try rw [Exit.noGoto_ret]
            go_ret
            exact ⟨.inr ⟨HN.out, rfl⟩, HB2.out⟩

theorem implBoard_yes (f : Nat → Int) (w : World) (h : Vd f) :
    Calls Tryz.prog 39 #[.agg (mk 16 f)] w fun e w' => e = .returned (.bool true) ∧ Below w.heap.size w w' :=
  (implBoard_any f w).mono fun _ _ ⟨h1, h2⟩ => ⟨h1.elim (·.2) (fun k => absurd h k.1), h2⟩
theorem implBoard_no (f : Nat → Int) (w : World) (h : ¬ Vd f) :
    Calls Tryz.prog 39 #[.agg (mk 16 f)] w fun e w' => e = .returned (.bool false) ∧ Below w.heap.size w w' :=
  (implBoard_any f w).mono fun _ _ ⟨h1, h2⟩ => ⟨h1.elim (fun k => absurd k.1 h) (·.2), h2⟩


set_option maxHeartbeats 2000000 in
set_option maxRecDepth 20000 in
theorem implLess_any (f g : Nat → Int) (w : World) :
    Calls Tryz.prog 27 #[.agg (mk 16 f), .agg (mk 16 g)] w fun e w' => e = .returned (.tuple #[.bool (lessR f g), .bool (lessO f g)]) ∧ Below w.heap.size w w' := by
  have z4 := zero4
  have iG := idxG
  have K1 := (Blk.new w 16 f 27).alloc (.cells (mk 16 g) 27)
  have K2 := Blk.new (w.alloc (.cells (mk 16 f) 27)) 16 g 27
  have HB := Lib.hid (((Below.refl w.heap.size w).alloc (Nat.le_refl _) (.cells (mk 16 f) 27)).alloc (by simp) (.cells (mk 16 g) 27))
  simp only [World.size_alloc] at K2
  by_cases hV : Vd f
  · by_cases hW : Vd g
    · obtain ⟨y1, y2⟩ := less_yes hV hW
      rw [y1, y2]
      clear y1 y2
      have HV := Lib.hid hV
      have HW := Lib.hid hW
      clear hV hW
      go_enter Tryz.func27, Tryz.ntmps27
      go_wp2_with ((with_reducible show wpList _ _ _ (Oper.mk _ (Op.load 27 _) _ _ _ _ :: _) _ _); refine loadB (K1) rfl rfl rfl ?_)
      refine (implBoard_yes _ _ HV.out).mono ?_
      rintro e w1 ⟨rfl, hb2⟩
      have K1 := K1.bew hb2 K1.lt
      have K2 := K2.bew hb2 K2.lt
      have HB : Hid (Below w.heap.size w w1) := HB.out.trans (hb2.mono HB.out.size)
      clear hb2
      go_wp2_with ((with_reducible show wpList _ _ _ (Oper.mk _ (Op.load 27 _) _ _ _ (some _) :: _) _ _); refine loadgB (K2) rfl rfl rfl ?_)
      refine (implBoard_yes _ _ HW.out).mono ?_
      rintro e w2 ⟨rfl, hb2⟩
      have K1 := K1.bew hb2 K1.lt
      have K2 := K2.bew hb2 K2.lt
      have HB : Hid (Below w.heap.size w w2) := HB.out.trans (hb2.mono HB.out.size)
      clear hb2
      go_wp2_with ((with_reducible show wpList _ _ _ (Oper.mk _ (Op.load 25 _) _ _ _ _ :: _) _ _); refine loadG (K1) rfl rfl rfl ?_)
      go_loopg [18] 4 (fun n s18 wr => ∃ r : Nat, r + n = 4 ∧ s18 = .int .i64 r ∧ (∀ i, i < r * 4 → f i = g i) ∧ Blk wr (w.heap.size + 1) 16 g 27 ∧ Hid (Below w.heap.size w wr))
      case atStart => exact ⟨0, by omega, rfl, fun i hi => by omega, K2, HB⟩
      case round =>
        obtain ⟨r, hrg, rfl, he, k2, hb⟩ := hrel
        have HE := Lib.hid he
        clear he
        cases gk with
        | zero =>
          have hr : ¬ ((r : Int) < 4) := by omega
          obtain rfl : r = 4 := by omega
          have HL := Lib.hid (lessB_none HE.out)
          clear hrg hr
          go_wp2_with fail
          go_ret2
          exact ⟨by rw [HL.out]; rfl, hb.out⟩
        | succ n =>
          have hr4 : (r : Int) < 4 := by omega
          have hr0 : (0 : Int) ≤ (r : Int) := by omega
          have hr5 : r < 4 := by omega
          have k2 := k2.alloc (.cells (mk 4 fun c => f (r * 4 + c)) 24)
          have k1 := Blk.new wr 4 (fun c => f (r * 4 + c)) 24
          have HB4 : Hid (Below w.heap.size w (wr.alloc (.cells (mk 4 fun c => f (r * 4 + c)) 24))) := hb.out.alloc hb.out.size _
          have hs1 := k2.lt
          clear hb
          go_wp2_with fail
          generalize wr.alloc (.cells (mk 4 fun c => f (r * 4 + c)) 24) = w4 at *
          have a0 := fun (W : World) (q : Blk W wr.heap.size 4 (fun c => f (r * 4 + c)) 24) => q.cell (i := 0) (by omega)
          have a1 := fun (W : World) (q : Blk W wr.heap.size 4 (fun c => f (r * 4 + c)) 24) => q.cell (i := 1) (by omega)
          have a2 := fun (W : World) (q : Blk W wr.heap.size 4 (fun c => f (r * 4 + c)) 24) => q.cell (i := 2) (by omega)
          have a3 := fun (W : World) (q : Blk W wr.heap.size 4 (fun c => f (r * 4 + c)) 24) => q.cell (i := 3) (by omega)
          have ae : (#[.int .i64 (f (r * 4 + 0)), .int .i64 (f (r * 4 + 1)), .int .i64 (f (r * 4 + 2)), .int .i64 (f (r * 4 + 3))] : Array Value) = mk 4 (fun c => f (r * 4 + c)) := rfl
          have ae' : (#[.int .i64 (f (r * 4)), .int .i64 (f (r * 4 + 1)), .int .i64 (f (r * 4 + 2)), .int .i64 (f (r * 4 + 3))] : Array Value) = mk 4 (fun c => f (r * 4 + c)) := rfl
          have d0 := fun (W : World) (q : Blk W (w.heap.size + 1) 16 g 27) => q.cell (i := r * 4) (by omega)
          have d1 := fun (W : World) (q : Blk W (w.heap.size + 1) 16 g 27) => q.cell (i := r * 4 + 1) (by omega)
          have d2 := fun (W : World) (q : Blk W (w.heap.size + 1) 16 g 27) => q.cell (i := r * 4 + 2) (by omega)
          have d3 := fun (W : World) (q : Blk W (w.heap.size + 1) 16 g 27) => q.cell (i := r * 4 + 3) (by omega)
          have de : (#[.int .i64 (g (r * 4)), .int .i64 (g (r * 4 + 1)), .int .i64 (g (r * 4 + 2)), .int .i64 (g (r * 4 + 3))] : Array Value) = mk 4 (fun c => g (r * 4 + c)) := rfl
          have iN := neqR
          go_region_held3 (fun w' => Blk w' wr.heap.size 4 (fun c => f (r * 4 + c)) 24 ∧ Blk w' (w.heap.size + 1) 16 g 27 ∧ Below w.heap.size w w') (first | exact ⟨k1.drew, k2.drew, HB4.out.drew⟩ | assumption) (fail)
          all_goals
            clear a0 a1 a2 a3 ae ae' d0 d1 d2 d3 de iN
            skip
          by_cases hs : sameR (fun c => f (r * 4 + c)) (fun c => g (r * 4 + c)) = true
          · rw [hs]
            have HS := Lib.hid (sameR_iff.1 hs)
            clear hs
            go_wp2_with fail
            go_roundg n
            case rel => exact ⟨r + 1, by omega, by go_num, fun i hi => by
              by_cases l : i < r * 4
              · exact HE.out i l
              · have := HS.out (i - r * 4) (by omega)
                simp only [show r * 4 + (i - r * 4) = i by omega] at this
                exact this, And.left (And.right (by assumption)), And.right (And.right (by assumption))⟩
            case measure => omega
          · have hs : sameR (fun c => f (r * 4 + c)) (fun c => g (r * 4 + c)) = false := by simpa using hs
            rw [hs]
            obtain ⟨c, hc, hi, hd⟩ := row_first hs
            have hl := lessB_at (f := f) (g := g) (j := r * 4 + c) (by omega) (fun i hi2 => by
              by_cases l : i < r * 4
              · exact HE.out i l
              · have := hi (i - r * 4) (by omega)
                simp only [show r * 4 + (i - r * 4) = i by omega] at this
                exact this) hd
            clear hs
            rcases (by omega : f (r * 4 + c) < g (r * 4 + c) ∨ g (r * 4 + c) < f (r * 4 + c)) with hx | hx
            · have HL : Hid (lessB f g = true) := by
                show _ = _
                rw [hl]; simpa using hx
              clear hl hd
              have HC := Lib.hid hc
              have HI := Lib.hid hi
              have HX := Lib.hid hx
              clear hc hi hx
              go_wp2_with fail
              go_region_held3 (fun w' => Blk w' wr.heap.size 4 (fun c => f (r * 4 + c)) 24 ∧ Blk w' (w.heap.size + 1) 16 g 27 ∧ Below w.heap.size w w') (first | exact ⟨Blk.drew (And.left (by assumption)), Blk.drew (And.left (And.right (by assumption))), Below.drew (And.right (And.right (by assumption)))⟩ | assumption) (first | (go_at_call 54; refine (compare_lt _ 0 _ (r * 4) _ _ (fun c => f (r * 4 + c)) (fun c => g (r * 4 + c)) c _ HC.out HI.out HX.out (fun j hj => by rw [Nat.zero_add]; exact Blk.cell (And.left (by assumption)) hj) (fun j hj => Blk.cell (And.left (And.right (by assumption))) (by omega))).mono ?_; rintro e w6 ⟨rfl, rfl⟩) | fail)
              all_goals
                go_wp2_with fail
                go_ret2
                exact ⟨by rw [HL.out]; rfl, And.right (And.right (by assumption))⟩
            · have HL : Hid (lessB f g = false) := by
                show _ = _
                rw [hl]; simp; omega
              clear hl hd
              have HC := Lib.hid hc
              have HI := Lib.hid hi
              have HX := Lib.hid hx
              clear hc hi hx
              go_wp2_with fail
              go_region_held3 (fun w' => Blk w' wr.heap.size 4 (fun c => f (r * 4 + c)) 24 ∧ Blk w' (w.heap.size + 1) 16 g 27 ∧ Below w.heap.size w w') (first | exact ⟨Blk.drew (And.left (by assumption)), Blk.drew (And.left (And.right (by assumption))), Below.drew (And.right (And.right (by assumption)))⟩ | assumption) (first | (go_at_call 54; refine (compare_gt _ 0 _ (r * 4) _ _ (fun c => f (r * 4 + c)) (fun c => g (r * 4 + c)) c _ HC.out HI.out HX.out (fun j hj => by rw [Nat.zero_add]; exact Blk.cell (And.left (by assumption)) hj) (fun j hj => Blk.cell (And.left (And.right (by assumption))) (by omega))).mono ?_; rintro e w6 ⟨rfl, rfl⟩) | fail)
              all_goals
                go_wp2_with fail
                go_ret2
                exact ⟨by rw [HL.out]; rfl, And.right (And.right (by assumption))⟩
    · obtain ⟨y1, y2⟩ := less_no2 (f := f) hW
      rw [y1, y2]
      clear y1 y2
      have HV := Lib.hid hV
      have HW := Lib.hid hW
      clear hV hW
      go_enter Tryz.func27, Tryz.ntmps27
      go_wp2_with ((with_reducible show wpList _ _ _ (Oper.mk _ (Op.load 27 _) _ _ _ _ :: _) _ _); refine loadB (K1) rfl rfl rfl ?_)
      refine (implBoard_yes _ _ HV.out).mono ?_
      rintro e w1 ⟨rfl, hb2⟩
      have K1 := K1.bew hb2 K1.lt
      have K2 := K2.bew hb2 K2.lt
      have HB : Hid (Below w.heap.size w w1) := HB.out.trans (hb2.mono HB.out.size)
      clear hb2
      go_wp2_with ((with_reducible show wpList _ _ _ (Oper.mk _ (Op.load 27 _) _ _ _ (some _) :: _) _ _); refine loadgB (K2) rfl rfl rfl ?_)
      refine (implBoard_no _ _ HW.out).mono ?_
      rintro e w2 ⟨rfl, hb2⟩
      have K1 := K1.bew hb2 K1.lt
      have K2 := K2.bew hb2 K2.lt
      have HB : Hid (Below w.heap.size w w2) := HB.out.trans (hb2.mono HB.out.size)
      clear hb2
      go_wp2_with fail
      go_ret2
      exact ⟨rfl, HB.out⟩
  · obtain ⟨y1, y2⟩ := less_no1 (g := g) hV
    rw [y1, y2]
    clear y1 y2
    have HV := Lib.hid hV
    clear hV
    go_enter Tryz.func27, Tryz.ntmps27
    go_wp2_with ((with_reducible show wpList _ _ _ (Oper.mk _ (Op.load 27 _) _ _ _ _ :: _) _ _); refine loadB (K1) rfl rfl rfl ?_)
    refine (implBoard_no _ _ HV.out).mono ?_
    rintro e w1 ⟨rfl, hb2⟩
    have K1 := K1.bew hb2 K1.lt
    have K2 := K2.bew hb2 K2.lt
    have HB : Hid (Below w.heap.size w w1) := HB.out.trans (hb2.mono HB.out.size)
    clear hb2
    go_wp2_with fail
    go_ret2
    exact ⟨rfl, HB.out⟩

/-- What the program's comparing function of two boards returns. -/
noncomputable def cmpV (f g : Nat → Int) : Int := if sameB f g = true then 0 else if lessB f g = true then -1 else 1
set_option maxHeartbeats 1000000 in
theorem cmpB_any (f g : Nat → Int) (w : World) (hf : Vd f) (hg : Vd g) :
    Calls Tryz.prog 33 #[.agg (mk 16 f), .agg (mk 16 g)] w fun e w' => e = .returned (.int .i64 (cmpV f g)) ∧ Below w.heap.size w w' := by
  have iE : ∀ (f g : Nat → Int) (w : World), (Op.equalIn 10000 25 (.agg (mk 16 f)) (.agg (mk 16 g))).run Tryz.prog w = .ok (sameB f g) w := eqG 9997
  have K1 := (Blk.new w 16 f 27).alloc (.cells (mk 16 g) 27)
  have K2 := Blk.new (w.alloc (.cells (mk 16 f) 27)) 16 g 27
  have HB := Lib.hid (((Below.refl w.heap.size w).alloc (Nat.le_refl _) (.cells (mk 16 f) 27)).alloc (by simp) (.cells (mk 16 g) 27))
  simp only [World.size_alloc] at K2
  have HF := Lib.hid hf
  have HG := Lib.hid hg
  have HY := Lib.hid (less_yes hf hg)
  clear hf hg
  cases hs : sameB f g with
  | true =>
    have HV : Hid (cmpV f g = 0) := by show _ = _; simp [cmpV, hs]
    go_enter Tryz.func33, Tryz.ntmps33
    go_wp2_with (first | ((with_reducible show wpList _ _ _ (Oper.mk _ (Op.load 25 _) _ _ _ _ :: _) _ _); refine loadG (K1) rfl rfl rfl ?_) | ((with_reducible show wpList _ _ _ (Oper.mk _ (Op.load 25 _) _ _ _ _ :: _) _ _); refine loadG (K2) rfl rfl rfl ?_))
    go_ret
    exact ⟨by rw [HV.out]; rfl, HB.out⟩
  | false =>
    cases hl : lessB f g with
    | true =>
      have HV : Hid (cmpV f g = -1) := by show _ = _; simp [cmpV, hs, hl]
      have HL := Lib.hid hl
      clear hl
      go_enter Tryz.func33, Tryz.ntmps33
      go_wp2_with (first | ((with_reducible show wpList _ _ _ (Oper.mk _ (Op.load 25 _) _ _ _ _ :: _) _ _); refine loadG (K1) rfl rfl rfl ?_) | ((with_reducible show wpList _ _ _ (Oper.mk _ (Op.load 25 _) _ _ _ _ :: _) _ _); refine loadG (K2) rfl rfl rfl ?_) | ((with_reducible show wpList _ _ _ (Oper.mk _ (Op.load 27 _) _ _ _ _ :: _) _ _); refine loadB (K1) rfl rfl rfl ?_) | ((with_reducible show wpList _ _ _ (Oper.mk _ (Op.load 27 _) _ _ _ _ :: _) _ _); refine loadB (K2) rfl rfl rfl ?_))
      refine (implLess_any _ _ _).mono ?_
      rw [HY.out.1, HY.out.2, HL.out]
      rintro e w3 ⟨rfl, hb2⟩
      have K1 := K1.bew hb2 K1.lt
      have K2 := K2.bew hb2 K2.lt
      have HB : Hid (Below w.heap.size w w3) := HB.out.trans (hb2.mono HB.out.size)
      clear hb2
      go_wp2_with fail
      go_ret
      exact ⟨by rw [HV.out]; rfl, HB.out⟩
    | false =>
      have HV : Hid (cmpV f g = 1) := by show _ = _; simp [cmpV, hs, hl]
      have HL := Lib.hid hl
      clear hl
      go_enter Tryz.func33, Tryz.ntmps33
      go_wp2_with (first | ((with_reducible show wpList _ _ _ (Oper.mk _ (Op.load 25 _) _ _ _ _ :: _) _ _); refine loadG (K1) rfl rfl rfl ?_) | ((with_reducible show wpList _ _ _ (Oper.mk _ (Op.load 25 _) _ _ _ _ :: _) _ _); refine loadG (K2) rfl rfl rfl ?_) | ((with_reducible show wpList _ _ _ (Oper.mk _ (Op.load 27 _) _ _ _ _ :: _) _ _); refine loadB (K1) rfl rfl rfl ?_) | ((with_reducible show wpList _ _ _ (Oper.mk _ (Op.load 27 _) _ _ _ _ :: _) _ _); refine loadB (K2) rfl rfl rfl ?_))
      refine (implLess_any _ _ _).mono ?_
      rw [HY.out.1, HY.out.2, HL.out]
      rintro e w3 ⟨rfl, hb2⟩
      have K1 := K1.bew hb2 K1.lt
      have K2 := K2.bew hb2 K2.lt
      have HB : Hid (Below w.heap.size w w3) := HB.out.trans (hb2.mono HB.out.size)
      clear hb2
      go_wp2_with fail
      go_ret
      exact ⟨by rw [HV.out]; rfl, HB.out⟩
end Go.Proofs.YtmcmpedmgibmkabGreat.Dr
