/-
  Several texts in one:
  The contracts of the reference's draws for the worst tile: tight, DrawLasts, DrawSureScore, DrawWorstReply, DrawPlaceTile.
  What FnSureScores draws: DrawLasts, DrawSureScore, DrawWorstReply, DrawPlaceTile.
  What FnLasting draws beside DrawLasts: DrawRefuteMove.
-/
import Derived.Test.YtlboglcpbbnbcabDrawTight
import Derived.Test.YtlboglcpbbnbcabTripKit
import Derived.Test.YtlboglcpbbnbcabSpecPlaces
namespace Go.Proofs.Ytlboglcpbbnbcab
open Go.RowKit Plain
attribute [local go_sem] store_new
set_option linter.unusedSimpArgs false
set_option linter.unusedVariables false
set_option maxHeartbeats 8000000 in
set_option maxRecDepth 20000 in
theorem tight_any (w : World) (B m : Nat) (hc : Cur w B m) (hm : m ≤ 999980000) :
    Calls Try.prog 106 #[.pointer (some ⟨B, 0, none⟩)] w fun e w' => ∃ f, e = .returned (.agg (mk 16 f)) ∧ Cur w' B (m + 300) ∧ Turned B w w' := by
  have z16 := zero16
  have D0 := Lib.hid ((Dr.start hc).alloc (.cells (mk 16 fun _ => 0) 29))
  have K2 := Blk.new w 16 (fun _ => 0) 29
  have hB := hc.lt
  clear hc
  go_enter Try.func106, Try.ntmps106
  go_wp2_with fail
  refine (one_any _ B m 6 D0.out.1 (by omega) (by omega) (by omega)).mono ?_
  rintro e w1 ⟨c, rfl, hc1, ht1⟩
  have K2 := K2.turned ht1 (by omega)
  have D1 := Lib.hid (D0.out.call hc1 ht1)
  clear hc1 ht1 D0
  cases c with
  | true =>
    go_wp2_with fail
    refine (board_any _ B (m + 2) D1.out.1 (by omega)).mono ?_
    rintro e w2 ⟨F, rfl, hc1, ht1⟩
    have K2 := K2.turned ht1 (by omega)
    have D1 := Lib.hid (D1.out.call hc1 ht1)
    clear hc1 ht1
    go_wp2_with ((with_reducible show wpList _ _ _ (Oper.mk _ (Op.store 29 _ _) _ _ _ _ :: _) _ _); refine storeB (K2) rfl rfl rfl rfl ?_)
    try simp only [Exit.inBlock, Exit.then]
    exact retcB (K2.row 16 _) rfl rfl rfl ⟨_, rfl, (D1.out.row (Nat.le_refl _) _).1.more (by omega), (D1.out.row (Nat.le_refl _) _).2.1⟩
  | false =>
    have h3 : w.heap.size < w1.heap.size := K2.lt
    have KN := Blk.new w1 16 (fun _ => 0) 29
    have HS : Hid (TS w B (m + 2) w1.heap.size (fun _ => 0) (w1.alloc (.cells (mk 16 fun _ => 0) 29))) := ⟨D1.out.alloc _, K2.alloc _, Blk.new _ _ _ _, h3⟩
    clear D1 K2
    go_wp2_with ((with_reducible show wpList _ _ _ (Oper.mk _ (Op.store 29 _ _) _ _ _ _ :: _) _ _); refine storeB (KN) rfl rfl rfl rfl ?_)
    rw [World.setRow_alloc_new]
    clear KN
    generalize w1.alloc (.cells (mk 16 fun _ => 0) 29) = w2 at *
    generalize w1.heap.size = b3 at *
    go_loopg [4] 4 (fun g s4 wr => ∃ (r m1 : Nat) (G : Nat → Int), r + g = 4 ∧ s4 = .int .i64 r ∧ m1 ≤ m + 2 + r * 16 ∧ Hid (TS w B m1 b3 G wr))
    case atStart => exact ⟨0, m + 2, _, by omega, rfl, by omega, HS⟩
    case round =>
      clear HS
      obtain ⟨r, m1, G, hrg, rfl, hm1, HS⟩ := hrel
      cases gk with
      | zero =>
        have hr : ¬ ((r : Int) < 4) := by omega
        obtain rfl : r = 4 := by omega
        clear hrg hr
        go_wp2_with fail
        have hs := HS.out
        clear HS
        refine (pick_any _ B m1 4 hs.1.1 (by omega) (by omega) (by omega)).mono ?_
        rintro e w5 ⟨k, hk, rfl, hc2, ht2⟩
        have HS := Lib.hid (hs.call hc2 ht2)
        clear hc2 ht2 hs
        have hk0 : (0 : Int) ≤ (k : Int) := by omega
        go_wp2_with fail
        go_loopg [6] k (fun g s6 wr => ∃ (n m1 : Nat) (G : Nat → Int), n = g ∧ s6 = .int .i64 (n : Int) ∧ m1 + n * 4 ≤ m + 90 ∧ Hid (TS w B m1 b3 G wr))
        case atStart => exact ⟨k, _, G, rfl, by go_num, by omega, HS⟩
        case round =>
          clear HS
          obtain ⟨n, m1, F, rfl, rfl, hm1, HS⟩ := hrel
          cases n with
          | zero =>
            have hn : ¬ ((0 : Int) < ((0 : Nat) : Int)) := by omega
            go_wp2_with fail
            have hs := HS.out
            clear HS
            refine (one_any _ B m1 3 hs.1.1 (by omega) (by omega) (by omega)).mono ?_
            rintro e w6 ⟨c, rfl, hc2, ht2⟩
            have HS := Lib.hid (hs.call hc2 ht2)
            clear hc2 ht2 hs
            cases c with
            | true =>
              go_wp2_with fail
              refine wp_region_held_drew (S := fun _ => True) (by kernel_rfl) trivial (fun hHeld => ?_)
              have hs := HS.out.drew
              clear HS
              generalize w6.drew = x0 at *
              refine wpAnyH_take (i := 0) (oi := { dst := some 54, op := _, type := _, pos := _, after := _, guard := _ }) (v := .pointer (some ⟨B, 0, none⟩)) rfl (by kernel_rfl) (by kernel_rfl) (by kernel_rfl) (fun _ _ _ h => h) (Or.inl ⟨by rfl, by intro w hSw; clear hSw; go_simp; (try with_reducible rfl)⟩) trivial ?_
              try simp only [Act.put, List.setIfInBounds_toArray, List.set_cons_zero, List.set_cons_succ]
              refine wpAnyH_take (i := 2) (oi := { dst := some 56, op := _, type := _, pos := _, after := _, guard := _ }) (v := .pointer (some ⟨B, 0, none⟩)) rfl (by kernel_rfl) (by kernel_rfl) (by kernel_rfl) (fun _ _ _ h => h) (Or.inl ⟨by rfl, by intro w hSw; clear hSw; go_simp; (try with_reducible rfl)⟩) trivial ?_
              try simp only [Act.put, List.setIfInBounds_toArray, List.set_cons_zero, List.set_cons_succ]
              refine wpAnyH_take (i := 4) (oi := { dst := some 58, op := _, type := _, pos := _, after := _, guard := _ }) (v := .pointer (some ⟨b3, 0, none⟩)) rfl (by kernel_rfl) (by kernel_rfl) (by kernel_rfl) (fun _ _ _ h => h) (Or.inl ⟨by rfl, by intro w hSw; clear hSw; go_simp; (try with_reducible rfl)⟩) trivial ?_
              try simp only [Act.put, List.setIfInBounds_toArray, List.set_cons_zero, List.set_cons_succ]
              refine wpAnyH_ready (rs := [1]) (by kernel_rfl) (by simp) ?_
              refine AllReadyH.cons rfl (fun K hK => ?_) AllReadyH.nil
              go_simp
              refine (pick_any _ B (m1 + 2) 4 hs.1.1 (by omega) (by omega) (by omega)).mono ?_
              rintro e y9 ⟨ka, hka, rfl, hc2, ht2⟩
              have hs := hs.call hc2 ht2
              clear hc2 ht2
              have hka0 : (0 : Int) ≤ (ka : Int) := by omega
              go_wp2_with fail
              refine hK.out _ _ trivial (fun hHeld => ?_)
              clear hK K
              try simp only [Act.put, List.setIfInBounds_toArray, List.set_cons_zero, List.set_cons_succ]
              refine wpAnyH_take (i := 5) (oi := { dst := some 59, op := _, type := _, pos := _, after := _, guard := _ }) (v := .pointer (some ⟨b3, ka * 4, none⟩)) rfl (by kernel_rfl) (by kernel_rfl) (by kernel_rfl) (fun _ _ _ h => h) (Or.inl ⟨by rfl, by intro w hSw; clear hSw; go_simp; (try with_reducible rfl)⟩) trivial ?_
              try simp only [Act.put, List.setIfInBounds_toArray, List.set_cons_zero, List.set_cons_succ]
              refine wpAnyH_ready (rs := [3]) (by kernel_rfl) (by simp) ?_
              refine AllReadyH.cons rfl (fun K hK => ?_) AllReadyH.nil
              go_simp
              refine (pick_any _ B (m1 + 2 + 2) 4 hs.1.1 (by omega) (by omega) (by omega)).mono ?_
              rintro e y10 ⟨kb, hkb, rfl, hc2, ht2⟩
              have hs := hs.call hc2 ht2
              clear hc2 ht2
              have hkb0 : (0 : Int) ≤ (kb : Int) := by omega
              go_wp2_with fail
              refine hK.out _ _ trivial (fun hHeld => ?_)
              clear hK K
              try simp only [Act.put, List.setIfInBounds_toArray, List.set_cons_zero, List.set_cons_succ]
              refine wpAnyH_take (i := 6) (oi := { dst := some 60, op := _, type := _, pos := _, after := _, guard := _ }) (v := .pointer (some ⟨b3, ka * 4 + kb, none⟩)) rfl (by kernel_rfl) (by kernel_rfl) (by kernel_rfl) (fun _ _ _ h => h) (Or.inl ⟨by rfl, by intro w hSw; clear hSw; go_simp; (try with_reducible rfl)⟩) trivial ?_
              try simp only [Act.put, List.setIfInBounds_toArray, List.set_cons_zero, List.set_cons_succ]
              refine wpAnyH_ready (rs := [7]) (by kernel_rfl) (by simp) ?_
              refine AllReadyH.cons rfl (fun K hK => ?_) AllReadyH.nil
              have c3 := hs.2.2.1.cell (i := ka * 4 + kb) (by omega)
              have f3 := hs.2.2.1.free (ka * 4 + kb)
              go_simp
              clear c3 f3
              refine hK.out _ _ trivial (fun hHeld => ?_)
              clear hK K
              try simp only [Act.put, List.setIfInBounds_toArray, List.set_cons_zero, List.set_cons_succ]
              refine wpAnyH_done (by kernel_rfl) ?_ _
              have HS := Lib.hid (hs.set (i := ka * 4 + kb) (by omega) (3))
              clear hs hHeld
              have hs := HS.out
              clear HS
              obtain ⟨h1, h2, h3, h4⟩ := hs
              have HD := Lib.hid h1
              clear h1
              go_wp2_with (first | ((with_reducible show wpList _ _ _ (Oper.mk _ (Op.load 29 _) _ _ _ _ :: _) _ _); refine loadB (h3) rfl rfl rfl ?_) | ((with_reducible show wpList _ _ _ (Oper.mk _ (Op.store 29 _ _) _ _ _ _ :: _) _ _); refine storeB (h2) rfl rfl rfl rfl ?_))
              try simp only [Exit.inBlock, Exit.then]
              exact retcB (h2.row 16 _) rfl rfl rfl ⟨_, rfl, (HD.out.row (Nat.le_refl _) _).1.more (by omega), (HD.out.row (Nat.le_refl _) _).2.1⟩
            | false =>
              have hs := HS.out
              clear HS
              obtain ⟨h1, h2, h3, h4⟩ := hs
              have HD := Lib.hid h1
              clear h1
              go_wp2_with (first | ((with_reducible show wpList _ _ _ (Oper.mk _ (Op.load 29 _) _ _ _ _ :: _) _ _); refine loadB (h3) rfl rfl rfl ?_) | ((with_reducible show wpList _ _ _ (Oper.mk _ (Op.store 29 _ _) _ _ _ _ :: _) _ _); refine storeB (h2) rfl rfl rfl rfl ?_))
              try simp only [Exit.inBlock, Exit.then]
              exact retcB (h2.row 16 _) rfl rfl rfl ⟨_, rfl, (HD.out.row (Nat.le_refl _) _).1.more (by omega), (HD.out.row (Nat.le_refl _) _).2.1⟩
          | succ n =>
            have hn : (0 : Int) < ((n + 1 : Nat) : Int) := by omega
            have hn0 : (0 : Int) ≤ (n : Int) := by omega
            go_wp2_with fail
            refine wp_region_held_drew (S := fun _ => True) (by kernel_rfl) trivial (fun hHeld => ?_)
            have hs := HS.out.drew
            clear HS
            generalize wr.drew = x0 at *
            refine wpAnyH_take (i := 0) (oi := { dst := some 45, op := _, type := _, pos := _, after := _, guard := _ }) (v := .pointer (some ⟨B, 0, none⟩)) rfl (by kernel_rfl) (by kernel_rfl) (by kernel_rfl) (fun _ _ _ h => h) (Or.inl ⟨by rfl, by intro w hSw; clear hSw; go_simp; (try with_reducible rfl)⟩) trivial ?_
            try simp only [Act.put, List.setIfInBounds_toArray, List.set_cons_zero, List.set_cons_succ]
            refine wpAnyH_take (i := 2) (oi := { dst := some 47, op := _, type := _, pos := _, after := _, guard := _ }) (v := .pointer (some ⟨B, 0, none⟩)) rfl (by kernel_rfl) (by kernel_rfl) (by kernel_rfl) (fun _ _ _ h => h) (Or.inl ⟨by rfl, by intro w hSw; clear hSw; go_simp; (try with_reducible rfl)⟩) trivial ?_
            try simp only [Act.put, List.setIfInBounds_toArray, List.set_cons_zero, List.set_cons_succ]
            refine wpAnyH_take (i := 4) (oi := { dst := some 49, op := _, type := _, pos := _, after := _, guard := _ }) (v := .pointer (some ⟨b3, 0, none⟩)) rfl (by kernel_rfl) (by kernel_rfl) (by kernel_rfl) (fun _ _ _ h => h) (Or.inl ⟨by rfl, by intro w hSw; clear hSw; go_simp; (try with_reducible rfl)⟩) trivial ?_
            try simp only [Act.put, List.setIfInBounds_toArray, List.set_cons_zero, List.set_cons_succ]
            refine wpAnyH_ready (rs := [1]) (by kernel_rfl) (by simp) ?_
            refine AllReadyH.cons rfl (fun K hK => ?_) AllReadyH.nil
            go_simp
            refine (pick_any _ B (m1) 4 hs.1.1 (by omega) (by omega) (by omega)).mono ?_
            rintro e y5 ⟨ka, hka, rfl, hc2, ht2⟩
            have hs := hs.call hc2 ht2
            clear hc2 ht2
            have hka0 : (0 : Int) ≤ (ka : Int) := by omega
            go_wp2_with fail
            refine hK.out _ _ trivial (fun hHeld => ?_)
            clear hK K
            try simp only [Act.put, List.setIfInBounds_toArray, List.set_cons_zero, List.set_cons_succ]
            refine wpAnyH_take (i := 5) (oi := { dst := some 50, op := _, type := _, pos := _, after := _, guard := _ }) (v := .pointer (some ⟨b3, ka * 4, none⟩)) rfl (by kernel_rfl) (by kernel_rfl) (by kernel_rfl) (fun _ _ _ h => h) (Or.inl ⟨by rfl, by intro w hSw; clear hSw; go_simp; (try with_reducible rfl)⟩) trivial ?_
            try simp only [Act.put, List.setIfInBounds_toArray, List.set_cons_zero, List.set_cons_succ]
            refine wpAnyH_ready (rs := [3]) (by kernel_rfl) (by simp) ?_
            refine AllReadyH.cons rfl (fun K hK => ?_) AllReadyH.nil
            go_simp
            refine (pick_any _ B (m1 + 2) 4 hs.1.1 (by omega) (by omega) (by omega)).mono ?_
            rintro e y6 ⟨kb, hkb, rfl, hc2, ht2⟩
            have hs := hs.call hc2 ht2
            clear hc2 ht2
            have hkb0 : (0 : Int) ≤ (kb : Int) := by omega
            go_wp2_with fail
            refine hK.out _ _ trivial (fun hHeld => ?_)
            clear hK K
            try simp only [Act.put, List.setIfInBounds_toArray, List.set_cons_zero, List.set_cons_succ]
            refine wpAnyH_take (i := 6) (oi := { dst := some 51, op := _, type := _, pos := _, after := _, guard := _ }) (v := .pointer (some ⟨b3, ka * 4 + kb, none⟩)) rfl (by kernel_rfl) (by kernel_rfl) (by kernel_rfl) (fun _ _ _ h => h) (Or.inl ⟨by rfl, by intro w hSw; clear hSw; go_simp; (try with_reducible rfl)⟩) trivial ?_
            try simp only [Act.put, List.setIfInBounds_toArray, List.set_cons_zero, List.set_cons_succ]
            refine wpAnyH_ready (rs := [7]) (by kernel_rfl) (by simp) ?_
            refine AllReadyH.cons rfl (fun K hK => ?_) AllReadyH.nil
            have c3 := hs.2.2.1.cell (i := ka * 4 + kb) (by omega)
            have f3 := hs.2.2.1.free (ka * 4 + kb)
            go_simp
            clear c3 f3
            refine hK.out _ _ trivial (fun hHeld => ?_)
            clear hK K
            try simp only [Act.put, List.setIfInBounds_toArray, List.set_cons_zero, List.set_cons_succ]
            refine wpAnyH_done (by kernel_rfl) ?_ _
            have HS := Lib.hid (hs.set (i := ka * 4 + kb) (by omega) (0))
            clear hs hHeld
            go_wp2_with fail
            go_roundg n
            case rel => exact ⟨n, m1 + 2 + 2, _, rfl, by go_num, by omega, HS⟩
            case measure => omega
      | succ g =>
        have hr4 : (r : Int) < 4 := by omega
        have hr5 : r < 4 := by omega
        have hr0 : (0 : Int) ≤ (r : Int) := by omega
        go_wp2_with fail
        go_loopg [5] 4 (fun h s5 wx => ∃ (c m2 : Nat) (G : Nat → Int), c + h = 4 ∧ s5 = .int .i64 c ∧ m2 ≤ m + 2 + r * 16 + c * 4 ∧ Hid (TS w B m2 b3 G wx))
        case atStart => exact ⟨0, m1, G, by omega, rfl, by omega, HS⟩
        case round =>
          clear HS
          obtain ⟨c, m1, H, hch, rfl, hm1, HS⟩ := hrel
          cases gk with
          | zero =>
            have hcc : ¬ ((c : Int) < 4) := by omega
            obtain rfl : c = 4 := by omega
            clear hch hcc
            go_wp2_with fail
            go_roundg g
            case rel => exact ⟨r + 1, m1, H, by omega, by go_num, by omega, HS⟩
            case measure => omega
          | succ h =>
            have hcc : (c : Int) < 4 := by omega
            have hc5 : c < 4 := by omega
            have hc0 : (0 : Int) ≤ (c : Int) := by omega
            have hw0 : IntKind.i64.wrap ((r : Int) + (c : Int)) = (r : Int) + (c : Int) := IntWalk.i64_in _ (by omega)
            obtain ⟨q, hq, hq0, hq1⟩ : ∃ q : Int, ((r : Int) + (c : Int)).tmod 2 = q ∧ 0 ≤ q ∧ q ≤ 1 := ⟨_, rfl, by rw [Int.tmod_eq_emod_of_nonneg (by omega)]; omega, by rw [Int.tmod_eq_emod_of_nonneg (by omega)]; omega⟩
            have hw1 : IntKind.i64.wrap q = q := IntWalk.i64_in _ (by omega)
            have hw2 : IntKind.i64.wrap (q * 2) = q * 2 := IntWalk.i64_in _ (by omega)
            have hw3 : IntKind.i64.wrap (1 + q * 2) = 1 + q * 2 := IntWalk.i64_in _ (by omega)
            go_wp2_with fail
            refine wp_region_held_drew (S := fun _ => True) (by kernel_rfl) trivial (fun hHeld => ?_)
            have hs := HS.out.drew
            clear HS
            generalize wr.drew = x0 at *
            refine wpAnyH_take (i := 0) (oi := { dst := some 20, op := _, type := _, pos := _, after := _, guard := _ }) (v := .int .i64 ((r : Int))) rfl (by kernel_rfl) (by kernel_rfl) (by kernel_rfl) (fun _ _ _ h => h) (Or.inl ⟨by rfl, by intro w hSw; clear hSw; go_simp; (try with_reducible rfl)⟩) trivial ?_
            try simp only [Act.put, List.setIfInBounds_toArray, List.set_cons_zero, List.set_cons_succ]
            refine wpAnyH_take (i := 1) (oi := { dst := some 21, op := _, type := _, pos := _, after := _, guard := _ }) (v := .int .i64 ((c : Int))) rfl (by kernel_rfl) (by kernel_rfl) (by kernel_rfl) (fun _ _ _ h => h) (Or.inl ⟨by rfl, by intro w hSw; clear hSw; go_simp; (try with_reducible rfl)⟩) trivial ?_
            try simp only [Act.put, List.setIfInBounds_toArray, List.set_cons_zero, List.set_cons_succ]
            refine wpAnyH_take (i := 2) (oi := { dst := some 22, op := _, type := _, pos := _, after := _, guard := _ }) (v := .int .i64 ((r : Int))) rfl (by kernel_rfl) (by kernel_rfl) (by kernel_rfl) (fun _ _ _ h => h) (Or.inl ⟨by rfl, by intro w hSw; clear hSw; go_simp; (try with_reducible rfl)⟩) trivial ?_
            try simp only [Act.put, List.setIfInBounds_toArray, List.set_cons_zero, List.set_cons_succ]
            refine wpAnyH_take (i := 3) (oi := { dst := some 23, op := _, type := _, pos := _, after := _, guard := _ }) (v := .int .i64 ((c : Int))) rfl (by kernel_rfl) (by kernel_rfl) (by kernel_rfl) (fun _ _ _ h => h) (Or.inl ⟨by rfl, by intro w hSw; clear hSw; go_simp; (try with_reducible rfl)⟩) trivial ?_
            try simp only [Act.put, List.setIfInBounds_toArray, List.set_cons_zero, List.set_cons_succ]
            refine wpAnyH_take (i := 4) (oi := { dst := some 24, op := _, type := _, pos := _, after := _, guard := _ }) (v := .int .i64 ((r : Int) + (c : Int))) rfl (by kernel_rfl) (by kernel_rfl) (by kernel_rfl) (fun _ _ _ h => h) (Or.inl ⟨by rfl, by intro w hSw; clear hSw; go_simp; (try with_reducible rfl)⟩) trivial ?_
            try simp only [Act.put, List.setIfInBounds_toArray, List.set_cons_zero, List.set_cons_succ]
            refine wpAnyH_take (i := 5) (oi := { dst := some 25, op := _, type := _, pos := _, after := _, guard := _ }) (v := .int .i64 (q)) rfl (by kernel_rfl) (by kernel_rfl) (by kernel_rfl) (fun _ _ _ h => h) (Or.inl ⟨by rfl, by intro w hSw; clear hSw; go_simp; (try with_reducible rfl)⟩) trivial ?_
            try simp only [Act.put, List.setIfInBounds_toArray, List.set_cons_zero, List.set_cons_succ]
            refine wpAnyH_take (i := 6) (oi := { dst := some 26, op := _, type := _, pos := _, after := _, guard := _ }) (v := .int .i64 (q * 2)) rfl (by kernel_rfl) (by kernel_rfl) (by kernel_rfl) (fun _ _ _ h => h) (Or.inl ⟨by rfl, by intro w hSw; clear hSw; go_simp; (try with_reducible rfl)⟩) trivial ?_
            try simp only [Act.put, List.setIfInBounds_toArray, List.set_cons_zero, List.set_cons_succ]
            refine wpAnyH_take (i := 7) (oi := { dst := some 27, op := _, type := _, pos := _, after := _, guard := _ }) (v := .int .i64 (1 + q * 2)) rfl (by kernel_rfl) (by kernel_rfl) (by kernel_rfl) (fun _ _ _ h => h) (Or.inl ⟨by rfl, by intro w hSw; clear hSw; go_simp; (try with_reducible rfl)⟩) trivial ?_
            try simp only [Act.put, List.setIfInBounds_toArray, List.set_cons_zero, List.set_cons_succ]
            refine wpAnyH_take (i := 8) (oi := { dst := some 28, op := _, type := _, pos := _, after := _, guard := _ }) (v := .pointer (some ⟨B, 0, none⟩)) rfl (by kernel_rfl) (by kernel_rfl) (by kernel_rfl) (fun _ _ _ h => h) (Or.inl ⟨by rfl, by intro w hSw; clear hSw; go_simp; (try with_reducible rfl)⟩) trivial ?_
            try simp only [Act.put, List.setIfInBounds_toArray, List.set_cons_zero, List.set_cons_succ]
            refine wpAnyH_take (i := 11) (oi := { dst := some 31, op := _, type := _, pos := _, after := _, guard := _ }) (v := .pointer (some ⟨B, 0, none⟩)) rfl (by kernel_rfl) (by kernel_rfl) (by kernel_rfl) (fun _ _ _ h => h) (Or.inl ⟨by rfl, by intro w hSw; clear hSw; go_simp; (try with_reducible rfl)⟩) trivial ?_
            try simp only [Act.put, List.setIfInBounds_toArray, List.set_cons_zero, List.set_cons_succ]
            refine wpAnyH_take (i := 16) (oi := { dst := some 36, op := _, type := _, pos := _, after := _, guard := _ }) (v := .pointer (some ⟨b3, 0, none⟩)) rfl (by kernel_rfl) (by kernel_rfl) (by kernel_rfl) (fun _ _ _ h => h) (Or.inl ⟨by rfl, by intro w hSw; clear hSw; go_simp; (try with_reducible rfl)⟩) trivial ?_
            try simp only [Act.put, List.setIfInBounds_toArray, List.set_cons_zero, List.set_cons_succ]
            refine wpAnyH_take (i := 17) (oi := { dst := some 37, op := _, type := _, pos := _, after := _, guard := _ }) (v := .pointer (some ⟨b3, r * 4, none⟩)) rfl (by kernel_rfl) (by kernel_rfl) (by kernel_rfl) (fun _ _ _ h => h) (Or.inl ⟨by rfl, by intro w hSw; clear hSw; go_simp; (try with_reducible rfl)⟩) trivial ?_
            try simp only [Act.put, List.setIfInBounds_toArray, List.set_cons_zero, List.set_cons_succ]
            refine wpAnyH_ready (rs := [9]) (by kernel_rfl) (by simp) ?_
            refine AllReadyH.cons rfl (fun K hK => ?_) AllReadyH.nil
            go_simp
            refine (pick_any _ B (m1) 2 hs.1.1 (by omega) (by omega) (by omega)).mono ?_
            rintro e y1 ⟨ka, hka, rfl, hc2, ht2⟩
            have hs := hs.call hc2 ht2
            clear hc2 ht2
            have hka0 : (0 : Int) ≤ (ka : Int) := by omega
            go_wp2_with fail
            refine hK.out _ _ trivial (fun hHeld => ?_)
            clear hK K
            try simp only [Act.put, List.setIfInBounds_toArray, List.set_cons_zero, List.set_cons_succ]
            have hwa : IntKind.i64.wrap (1 + q * 2 + (ka : Int)) = 1 + q * 2 + (ka : Int) := IntWalk.i64_in _ (by omega)
            refine wpAnyH_take (i := 10) (oi := { dst := some 30, op := _, type := _, pos := _, after := _, guard := _ }) (v := .int .i64 (1 + q * 2 + (ka : Int))) rfl (by kernel_rfl) (by kernel_rfl) (by kernel_rfl) (fun _ _ _ h => h) (Or.inl ⟨by rfl, by intro w hSw; clear hSw; go_simp; (try with_reducible rfl)⟩) trivial ?_
            try simp only [Act.put, List.setIfInBounds_toArray, List.set_cons_zero, List.set_cons_succ]
            refine wpAnyH_ready (rs := [12]) (by kernel_rfl) (by simp) ?_
            refine AllReadyH.cons rfl (fun K hK => ?_) AllReadyH.nil
            go_simp
            refine (pick_any _ B (m1 + 2) 9 hs.1.1 (by omega) (by omega) (by omega)).mono ?_
            rintro e y2 ⟨kb, hkb, rfl, hc2, ht2⟩
            have hs := hs.call hc2 ht2
            clear hc2 ht2
            have hkb0 : (0 : Int) ≤ (kb : Int) := by omega
            go_wp2_with fail
            refine hK.out _ _ trivial (fun hHeld => ?_)
            clear hK K
            try simp only [Act.put, List.setIfInBounds_toArray, List.set_cons_zero, List.set_cons_succ]
            have hwb : IntKind.i64.wrap (4 * (kb : Int)) = 4 * (kb : Int) := IntWalk.i64_in _ (by omega)
            obtain ⟨qb, hqb, hqb0, hqb1⟩ : ∃ qb : Int, (4 * (kb : Int)).tdiv 8 = qb ∧ 0 ≤ qb ∧ qb ≤ 4 := ⟨_, rfl, by rw [Int.tdiv_eq_ediv_of_nonneg (by omega)]; omega, by rw [Int.tdiv_eq_ediv_of_nonneg (by omega)]; omega⟩
            have hqw : IntKind.i64.wrap qb = qb := IntWalk.i64_in _ (by omega)
            refine wpAnyH_take (i := 13) (oi := { dst := some 33, op := _, type := _, pos := _, after := _, guard := _ }) (v := .int .i64 (4 * (kb : Int))) rfl (by kernel_rfl) (by kernel_rfl) (by kernel_rfl) (fun _ _ _ h => h) (Or.inl ⟨by rfl, by intro w hSw; clear hSw; go_simp; (try with_reducible rfl)⟩) trivial ?_
            try simp only [Act.put, List.setIfInBounds_toArray, List.set_cons_zero, List.set_cons_succ]
            refine wpAnyH_take (i := 14) (oi := { dst := some 34, op := _, type := _, pos := _, after := _, guard := _ }) (v := .int .i64 qb) rfl (by kernel_rfl) (by kernel_rfl) (by kernel_rfl) (fun _ _ _ h => h) (Or.inl ⟨by rfl, by intro w hSw; clear hSw; go_simp; (try with_reducible rfl)⟩) trivial ?_
            try simp only [Act.put, List.setIfInBounds_toArray, List.set_cons_zero, List.set_cons_succ]
            have hwc : IntKind.i64.wrap (1 + q * 2 + (ka : Int) + qb) = 1 + q * 2 + (ka : Int) + qb := IntWalk.i64_in _ (by omega)
            refine wpAnyH_take (i := 15) (oi := { dst := some 35, op := _, type := _, pos := _, after := _, guard := _ }) (v := .int .i64 (1 + q * 2 + (ka : Int) + qb)) rfl (by kernel_rfl) (by kernel_rfl) (by kernel_rfl) (fun _ _ _ h => h) (Or.inl ⟨by rfl, by intro w hSw; clear hSw; go_simp; (try with_reducible rfl)⟩) trivial ?_
            try simp only [Act.put, List.setIfInBounds_toArray, List.set_cons_zero, List.set_cons_succ]
            refine wpAnyH_take (i := 18) (oi := { dst := some 38, op := _, type := _, pos := _, after := _, guard := _ }) (v := .pointer (some ⟨b3, r * 4 + c, none⟩)) rfl (by kernel_rfl) (by kernel_rfl) (by kernel_rfl) (fun _ _ _ h => h) (Or.inl ⟨by rfl, by intro w hSw; clear hSw; go_simp; (try with_reducible rfl)⟩) trivial ?_
            try simp only [Act.put, List.setIfInBounds_toArray, List.set_cons_zero, List.set_cons_succ]
            refine wpAnyH_ready (rs := [19]) (by kernel_rfl) (by simp) ?_
            refine AllReadyH.cons rfl (fun K hK => ?_) AllReadyH.nil
            have c3 := hs.2.2.1.cell (i := r * 4 + c) (by omega)
            have f3 := hs.2.2.1.free (r * 4 + c)
            go_simp
            clear c3 f3
            refine hK.out _ _ trivial (fun hHeld => ?_)
            clear hK K
            try simp only [Act.put, List.setIfInBounds_toArray, List.set_cons_zero, List.set_cons_succ]
            refine wpAnyH_done (by kernel_rfl) ?_ _
            have HS := Lib.hid (hs.set (i := r * 4 + c) (by omega) (1 + q * 2 + (ka : Int) + qb))
            clear hs hHeld
            go_wp2_with fail
            go_roundg h
            case rel => exact ⟨c + 1, m1 + 2 + 2, _, by omega, by go_num, by omega, HS⟩
            case measure => omega
end Go.Proofs.Ytlboglcpbbnbcab
namespace Go.Proofs.Ytlboglcpbbnbcab
open Go.RowKit Plain
attribute [local go_sem] store_new
set_option linter.unusedSimpArgs false
set_option linter.unusedVariables false
theorem list_new (W : World) (cs : Array Value) (n : Nat) (hn : n = cs.size) (h : ∀ v, v ∈ cs → ∃ t, v = .int .i64 t) (t : TypeId) : ∀ j, j < n → ∃ v, (W.alloc (.cells cs t)).cell? ⟨W.heap.size, j, none⟩ = some v ∧ ∃ t, v = .int .i64 t ∧ True := by
  subst hn
  intro j hj
  refine alloc_all W _ _ (fun v => ∃ t, v = .int .i64 t ∧ True) ?_ j hj
  intro v hv
  obtain ⟨t, e⟩ := h v (by simpa using hv)
  exact ⟨t, e, trivial⟩
theorem CAt.turned {w w' : World} {B g n : Nat} {h : Nat → Int} (c : CAt w g n h) (ht : Turned B w w') (hne : g ≠ B) : CAt w' g n h :=
  ⟨Nat.lt_of_lt_of_le c.1 ht.size, fun j hj => ht.cell (c.2 j hj) hne⟩
set_option maxHeartbeats 1000000 in
theorem drawLasts_any (a : Option Addr) (len cap : Nat) (w : World) (hl : len ≤ 65536) (hr : CodeRow w a len w.heap.size) :
    Calls Try.prog 47 #[.slice a len cap] w fun e w' => ∃ (f : Nat → Int) (n : Int), e = .returned (.tuple #[.agg (mk 16 f), .int .i64 n]) ∧ Below w.heap.size w w' := by
  have z16 := zero16
  have K2 := (Blk.new w 16 (fun _ => 0) 29).alloc (.cells #[.slice a len cap, .int .i64 0, .int .u64 0] 108)
  have hr1 := hr.later ((Below.refl _ w).alloc (Nat.le_refl _) (.cells (mk 16 fun _ => 0) 29))
  have HC := Lib.hid (Cur.new (w.alloc (.cells (mk 16 fun _ => 0) 29)) a len cap hl hr1)
  have hs : (w.alloc (.cells (mk 16 fun _ => 0) 29)).heap.size = w.heap.size + 1 := by simp
  rw [hs] at HC
  clear hr hr1
  have HT := Lib.hid ((Turned.refl (w.heap.size + 1) ((w.alloc (.cells (mk 16 fun _ => 0) 29)).alloc (.cells #[.slice a len cap, .int .i64 0, .int .u64 0] 108))).alloc (.cells #[.int .i64 2, .int .i64 1, .int .i64 3, .int .i64 0, .int .i64 2, .int .i64 4, .int .i64 (-1)] 3))
  have H7 := Lib.hid (list_new ((w.alloc (.cells (mk 16 fun _ => 0) 29)).alloc (.cells #[.slice a len cap, .int .i64 0, .int .u64 0] 108)) #[.int .i64 2, .int .i64 1, .int .i64 3, .int .i64 0, .int .i64 2, .int .i64 4, .int .i64 (-1)] 7 rfl (fun v hv => by simp at hv; rcases hv with rfl | rfl | rfl | rfl | rfl | rfl | rfl <;> exact ⟨_, rfl⟩) 3)
  go_enter Try.func47, Try.ntmps47
  go_wp2_with fail
  refine (among_any _ (w.heap.size + 1) 0 _ 7 7 (fun _ => True) (HC.out.alloc _) (by omega) (by omega) (by omega) (by omega) (by have := H7.out; simpa using this)).mono ?_
  rintro e w2 ⟨k, _, rfl, hc2, ht2⟩
  have K2 := (K2.alloc (.cells #[.int .i64 2, .int .i64 1, .int .i64 3, .int .i64 0, .int .i64 2, .int .i64 4, .int .i64 (-1)] 3)).turned ht2 (by omega)
  have HT := Lib.hid (HT.out.trans ht2)
  have HC := Lib.hid hc2
  clear hc2 ht2 H7
  go_wp2_with fail
  refine (tight_any _ (w.heap.size + 1) _ HC.out (by omega)).mono ?_
  rintro e w3 ⟨f, rfl, hc2, ht2⟩
  have K2 := K2.turned ht2 (by omega)
  have HT := Lib.hid (HT.out.trans ht2)
  clear hc2 ht2 HC
  go_wp2_with ((with_reducible show wpList _ _ _ (Oper.mk _ (Op.store 29 _ _) _ _ _ _ :: _) _ _); refine storeB (K2) rfl rfl rfl rfl ?_)
  try simp only [Exit.inBlock, Exit.then]
  exact retctB (K2.row 16 _) rfl rfl rfl ⟨f, k, rfl, below_setRow (below_two rfl HT.out) (Nat.le_refl _) _⟩
set_option maxHeartbeats 400000 in
theorem drawSure_any (a : Option Addr) (len cap : Nat) (w : World) (hl : len ≤ 65536) (hr : CodeRow w a len w.heap.size) :
    Calls Try.prog 66 #[.slice a len cap] w fun e w' => ∃ (f : Nat → Int) (n : Int), e = .returned (.tuple #[.agg (mk 16 f), .int .i64 n]) ∧ Below w.heap.size w w' := by
  have z16 := zero16
  have K2 := Blk.new w 16 (fun _ => 0) 29
  have HB := Lib.hid ((Below.refl w.heap.size w).alloc (Nat.le_refl _) (.cells (mk 16 fun _ => 0) 29))
  have HR := Lib.hid (hr.later ((Below.refl _ w).alloc (Nat.le_refl _) (.cells (mk 16 fun _ => 0) 29)))
  clear hr
  go_enter Try.func66, Try.ntmps66
  go_wp2_with fail
  refine (drawLasts_any a len cap _ hl HR.out).mono ?_
  rintro e w2 ⟨f, k, rfl, hb⟩
  have K2 := K2.below hb (by simp)
  have HB : Hid (Below w.heap.size w w2) := HB.out.trans (hb.mono HB.out.size)
  clear hb
  go_wp2_with ((with_reducible show wpList _ _ _ (Oper.mk _ (Op.store 29 _ _) _ _ _ _ :: _) _ _); refine storeB (K2) rfl rfl rfl rfl ?_)
  try simp only [Exit.inBlock, Exit.then]
  exact retctB (K2.row 16 _) rfl rfl rfl ⟨f, k, rfl, below_setRow HB.out (Nat.le_refl _) _⟩
set_option maxHeartbeats 1000000 in
theorem drawReply_any (a : Option Addr) (len cap : Nat) (w : World) (hl : len ≤ 65536) (hr : CodeRow w a len w.heap.size) :
    Calls Try.prog 71 #[.slice a len cap] w fun e w' => ∃ (f : Nat → Int) (d n : Int), e = .returned (.tuple #[.agg (mk 16 f), .int .i64 d, .int .i64 n]) ∧ Below w.heap.size w w' := by
  have z16 := zero16
  have K2 := (Blk.new w 16 (fun _ => 0) 29).alloc (.cells #[.slice a len cap, .int .i64 0, .int .u64 0] 108)
  have hr1 := hr.later ((Below.refl _ w).alloc (Nat.le_refl _) (.cells (mk 16 fun _ => 0) 29))
  have HC := Lib.hid (Cur.new (w.alloc (.cells (mk 16 fun _ => 0) 29)) a len cap hl hr1)
  have hs : (w.alloc (.cells (mk 16 fun _ => 0) 29)).heap.size = w.heap.size + 1 := by simp
  rw [hs] at HC
  clear hr hr1
  have HT := Lib.hid ((Turned.refl (w.heap.size + 1) ((w.alloc (.cells (mk 16 fun _ => 0) 29)).alloc (.cells #[.slice a len cap, .int .i64 0, .int .u64 0] 108))).alloc (.cells #[.int .i64 1, .int .i64 0, .int .i64 1, .int .i64 2, .int .i64 (-1)] 3))
  have H7 := Lib.hid (list_new ((w.alloc (.cells (mk 16 fun _ => 0) 29)).alloc (.cells #[.slice a len cap, .int .i64 0, .int .u64 0] 108)) #[.int .i64 1, .int .i64 0, .int .i64 1, .int .i64 2, .int .i64 (-1)] 5 rfl (fun v hv => by simp at hv; rcases hv with rfl | rfl | rfl | rfl | rfl <;> exact ⟨_, rfl⟩) 3)
  go_enter Try.func71, Try.ntmps71
  go_wp2_with fail
  refine (among_any _ (w.heap.size + 1) 0 _ 5 5 (fun _ => True) (HC.out.alloc _) (by omega) (by omega) (by omega) (by omega) (by have := H7.out; simpa using this)).mono ?_
  rintro e w2 ⟨k, _, rfl, hc2, ht2⟩
  have K2 := (K2.alloc (.cells #[.int .i64 1, .int .i64 0, .int .i64 1, .int .i64 2, .int .i64 (-1)] 3)).turned ht2 (by omega)
  have HT := Lib.hid (HT.out.trans ht2)
  have HC := Lib.hid hc2
  clear hc2 ht2 H7
  go_wp2_with fail
  refine (side_any _ (w.heap.size + 1) _ HC.out (by omega)).mono ?_
  rintro e w3 ⟨d, rfl, hc2, ht2⟩
  have K2 := K2.turned ht2 (by omega)
  have HT := Lib.hid (HT.out.trans ht2)
  have HC := Lib.hid hc2
  clear hc2 ht2
  go_wp2_with fail
  refine (tight_any _ (w.heap.size + 1) _ HC.out (by omega)).mono ?_
  rintro e w4 ⟨f, rfl, hc2, ht2⟩
  have K2 := K2.turned ht2 (by omega)
  have HT := Lib.hid (HT.out.trans ht2)
  clear hc2 ht2 HC
  go_wp2_with ((with_reducible show wpList _ _ _ (Oper.mk _ (Op.store 29 _ _) _ _ _ _ :: _) _ _); refine storeB (K2) rfl rfl rfl rfl ?_)
  try simp only [Exit.inBlock, Exit.then]
  exact retcttB (K2.row 16 _) rfl rfl rfl ⟨f, d, k, rfl, below_setRow (below_two rfl HT.out) (Nat.le_refl _) _⟩
set_option maxHeartbeats 4000000 in
set_option maxRecDepth 20000 in
theorem drawPlace_any (a : Option Addr) (len cap : Nat) (w : World) (hl : len ≤ 65536) (hr : CodeRow w a len w.heap.size) :
    Calls Try.prog 76 #[.slice a len cap] w fun e w' => ∃ (f p : Nat → Int), e = .returned (.tuple #[.agg (mk 16 f), .agg (mk 3 p)]) ∧ Below w.heap.size w w' := by
  have z16 := zero16
  have z3 := zero3
  have z2 := zero2
  have K2 := ((Blk.new w 16 (fun _ => 0) 29).alloc (.cells (mk 3 fun _ => 0) 70)).alloc (.cells #[.slice a len cap, .int .i64 0, .int .u64 0] 108)
  have K3 := (Blk.new (w.alloc (.cells (mk 16 fun _ => 0) 29)) 3 (fun _ => 0) 70).alloc (.cells #[.slice a len cap, .int .i64 0, .int .u64 0] 108)
  have h1 : (w.alloc (.cells (mk 16 fun _ => 0) 29)).heap.size = w.heap.size + 1 := by simp
  rw [h1] at K3
  have hr1 := hr.later (((Below.refl _ w).alloc (Nat.le_refl _) (.cells (mk 16 fun _ => 0) 29)).alloc (by simp) (.cells (mk 3 fun _ => 0) 70))
  have HC := Lib.hid (Cur.new ((w.alloc (.cells (mk 16 fun _ => 0) 29)).alloc (.cells (mk 3 fun _ => 0) 70)) a len cap hl hr1)
  have hs : ((w.alloc (.cells (mk 16 fun _ => 0) 29)).alloc (.cells (mk 3 fun _ => 0) 70)).heap.size = w.heap.size + 2 := by simp
  rw [hs] at HC
  clear hr hr1 hs
  have HT := Lib.hid ((Turned.refl (w.heap.size + 2) (((w.alloc (.cells (mk 16 fun _ => 0) 29)).alloc (.cells (mk 3 fun _ => 0) 70)).alloc (.cells #[.slice a len cap, .int .i64 0, .int .u64 0] 108))).alloc (.cells #[.int .i64 1, .int .i64 2, .int .i64 1, .int .i64 2, .int .i64 0, .int .i64 3, .int .i64 (-1)] 3))
  have H7 := Lib.hid (list_new (((w.alloc (.cells (mk 16 fun _ => 0) 29)).alloc (.cells (mk 3 fun _ => 0) 70)).alloc (.cells #[.slice a len cap, .int .i64 0, .int .u64 0] 108)) #[.int .i64 1, .int .i64 2, .int .i64 1, .int .i64 2, .int .i64 0, .int .i64 3, .int .i64 (-1)] 7 rfl (fun v hv => by simp at hv; rcases hv with rfl | rfl | rfl | rfl | rfl | rfl | rfl <;> exact ⟨_, rfl⟩) 3)
  have K2 := K2.alloc (.cells #[.int .i64 1, .int .i64 2, .int .i64 1, .int .i64 2, .int .i64 0, .int .i64 3, .int .i64 (-1)] 3)
  have K3 := K3.alloc (.cells #[.int .i64 1, .int .i64 2, .int .i64 1, .int .i64 2, .int .i64 0, .int .i64 3, .int .i64 (-1)] 3)
  go_enter Try.func76, Try.ntmps76
  go_wp2_with fail
  refine (among_any _ (w.heap.size + 2) 0 _ 7 7 (fun _ => True) (HC.out.alloc _) (by omega) (by omega) (by omega) (by omega) (by have := H7.out; simpa using this)).mono ?_
  rintro e w2 ⟨t, _, rfl, hc2, ht2⟩
  have K2 := K2.turned ht2 (by omega)
  have K3 := K3.turned ht2 (by omega)
  have HT := Lib.hid (HT.out.trans ht2)
  have HC := Lib.hid hc2
  clear hc2 ht2 H7
  go_wp2_with fail
  refine (tight_any _ (w.heap.size + 2) _ HC.out (by omega)).mono ?_
  rintro e w3 ⟨f, rfl, hc2, ht2⟩
  have hlt : w.heap.size + 2 < w3.heap.size := hc2.lt
  have K2 := (K2.turned ht2 (by omega)).alloc (.cells (mk 16 f) 29)
  have K3 := (K3.turned ht2 (by omega)).alloc (.cells (mk 16 f) 29)
  have K6 := Blk.new w3 16 f 29
  have HT := Lib.hid ((HT.out.trans ht2).alloc (.cells (mk 16 f) 29))
  have HC := Lib.hid (hc2.alloc (.cells (mk 16 f) 29))
  clear hc2 ht2
  go_wp2_with fail
  generalize w3.alloc (.cells (mk 16 f) 29) = w4 at *
  generalize w3.heap.size = b6 at *
  refine (cell_any _ (w.heap.size + 2) _ HC.out (by omega)).mono ?_
  rintro e w5 ⟨g, rfl, hc2, ht2⟩
  have K2 := K2.turned ht2 (by omega)
  have K3 := K3.turned ht2 (by omega)
  have K6 := K6.turned ht2 (by omega)
  have hlt7 : b6 < w5.heap.size := K6.lt
  have K2 := K2.alloc (.cells (mk 2 g) 61)
  have K3 := K3.alloc (.cells (mk 2 g) 61)
  have K6 := K6.alloc (.cells (mk 2 g) 61)
  have K7 := Blk.new w5 2 g 61
  have HT := Lib.hid ((HT.out.trans ht2).alloc (.cells (mk 2 g) 61))
  have HC := Lib.hid (hc2.alloc (.cells (mk 2 g) 61))
  clear hc2 ht2
  go_wp2_with ((with_reducible show wpList _ _ _ (Oper.mk _ (Op.load 29 _) _ _ _ _ :: _) _ _); refine loadB (K6) rfl rfl rfl ?_)
  generalize w5.alloc (.cells (mk 2 g) 61) = w6 at *
  generalize w5.heap.size = b7 at *
  refine (l2Empty_any f _).mono ?_
  rintro _ w7 ⟨ge, ce, rfl, he, hb⟩
  have hge : w6.heap.size ≤ ge := (he.lt ge rfl).1
  have hcl := HC.out.lt
  have HC := Lib.hid (HC.out.kept hb)
  have HT := Lib.hid (HT.out.trans (turned_of hb))
  have K7l := K7.lt
  have CE : CAt w7 ge (empN f 16 * 2) (empF f) := empties_at he rfl
  have K2 := K2.below hb K2.lt
  have K3 := K3.below hb K3.lt
  have K6 := K6.below hb K6.lt
  have K7 := K7.below hb K7.lt
  have hne := empN_le f 16
  clear hb he
  generalize empN f 16 = n at *
  by_cases hn : (n : Int) > 0
  · go_wp2_with fail
    refine (one_any _ (w.heap.size + 2) _ 4 HC.out (by omega) (by omega) (by omega)).mono ?_
    rintro e wz ⟨c, rfl, hc2, ht2⟩
    have K2 := K2.turned ht2 (by omega)
    have K3 := K3.turned ht2 (by omega)
    have K6 := K6.turned ht2 (by omega)
    have K7 := K7.turned ht2 (by omega)
    have CE := CE.turned ht2 (by omega)
    have HT := Lib.hid (HT.out.trans ht2)
    have HC := Lib.hid hc2
    clear hc2 ht2
    cases c with
    | true =>
      go_wp2_with fail
      obtain ⟨G, hG⟩ : ∃ G : Nat → Int, G = g := ⟨_, rfl⟩
      rw [← hG] at K7
      clear hG
      refine wp_region_held_drew (S := fun W => Blk W b6 16 f 29 ∧ Blk W b7 2 G 61) (by kernel_rfl) (⟨K6.drew, K7.drew⟩) (fun hHeld => ?_)
      have HB : Hid (Below w.heap.size w wz.drew) := (below_three rfl HT.out).drew
      have K2 : Blk wz.drew w.heap.size 16 (fun _ => 0) 29 := K2.drew
      have K3 : Blk wz.drew (w.heap.size + 1) 3 (fun _ => 0) 70 := K3.drew
      have K6 : Blk wz.drew b6 16 f 29 := K6.drew
      have K7 : Blk wz.drew b7 2 G 61 := K7.drew
      generalize wz.drew = x0 at *
      refine wpAnyH_take (i := 0) (oi := { dst := some 36, op := _, type := _, pos := _, after := _, guard := _ }) (v := .agg (mk 16 f)) rfl (by kernel_rfl) (by kernel_rfl) (by kernel_rfl) (fun _ _ _ h => h) (Or.inl ⟨by rfl, fun _ q => execB q.1 rfl rfl⟩) (by assumption) ?_
      try simp only [Act.put, List.setIfInBounds_toArray, List.set_cons_zero, List.set_cons_succ]
      refine wpAnyH_take (i := 1) (oi := { dst := some 37, op := _, type := _, pos := _, after := _, guard := _ }) (v := .pointer (some ⟨b7, 0, none⟩)) rfl (by kernel_rfl) (by kernel_rfl) (by kernel_rfl) (fun _ _ _ h => h) (Or.inl ⟨by rfl, by intro w hSw; clear hSw; go_simp; (try with_reducible rfl)⟩) (by assumption) ?_
      try simp only [Act.put, List.setIfInBounds_toArray, List.set_cons_zero, List.set_cons_succ]
      refine wpAnyH_take (i := 2) (oi := { dst := some 38, op := _, type := _, pos := _, after := _, guard := _ }) (v := .int .i64 (G 0)) rfl (by kernel_rfl) (by kernel_rfl) (by kernel_rfl) (fun _ _ _ h => h) (Or.inl ⟨by rfl, by intro W q; have c0 := q.2.cell (i := 0) (by omega); clear q; go_simp⟩) (by assumption) ?_
      try simp only [Act.put, List.setIfInBounds_toArray, List.set_cons_zero, List.set_cons_succ]
      refine wpAnyH_take (i := 3) (oi := { dst := some 39, op := _, type := _, pos := _, after := _, guard := _ }) (v := .pointer (some ⟨b7, 1, none⟩)) rfl (by kernel_rfl) (by kernel_rfl) (by kernel_rfl) (fun _ _ _ h => h) (Or.inl ⟨by rfl, by intro w hSw; clear hSw; go_simp; (try with_reducible rfl)⟩) (by assumption) ?_
      try simp only [Act.put, List.setIfInBounds_toArray, List.set_cons_zero, List.set_cons_succ]
      refine wpAnyH_take (i := 4) (oi := { dst := some 40, op := _, type := _, pos := _, after := _, guard := _ }) (v := .int .i64 (G 1)) rfl (by kernel_rfl) (by kernel_rfl) (by kernel_rfl) (fun _ _ _ h => h) (Or.inl ⟨by rfl, by intro W q; have c0 := q.2.cell (i := 1) (by omega); clear q; go_simp⟩) (by assumption) ?_
      try simp only [Act.put, List.setIfInBounds_toArray, List.set_cons_zero, List.set_cons_succ]
      refine wpAnyH_take (i := 5) (oi := { dst := some 41, op := _, type := _, pos := _, after := _, guard := _ }) (v := .int .i64 t) rfl (by kernel_rfl) (by kernel_rfl) (by kernel_rfl) (fun _ _ _ h => h) (Or.inl ⟨by rfl, by intro w hSw; clear hSw; go_simp; (try with_reducible rfl)⟩) (by assumption) ?_
      try simp only [Act.put, List.setIfInBounds_toArray, List.set_cons_zero, List.set_cons_succ]
      refine wpAnyH_take (i := 6) (oi := { dst := some 42, op := _, type := _, pos := _, after := _, guard := _ }) (v := .agg (mk 3 (tri (G 0) (G 1) t))) rfl (by kernel_rfl) (by kernel_rfl) (by kernel_rfl) (fun _ _ _ h => h) (Or.inl ⟨by rfl, fun _ _ => exec_buildA _ _ _ rfl rfl rfl rfl⟩) (by assumption) ?_
      try simp only [Act.put, List.setIfInBounds_toArray, List.set_cons_zero, List.set_cons_succ]
      refine wpAnyH_ready (rs := [7]) (by kernel_rfl) (by simp) ?_
      refine AllReadyH.cons rfl (fun K hK => ?_) AllReadyH.nil
      have st1 := run_store_blk (P := Try.prog) (g := f) K2
      have ms1 : (mk 16 f).size = 16 := mk_size 16 _
      go_simp
      clear st1 ms1
      have K3 := K3.rowOther w.heap.size (mk 16 f) (by omega)
      have K6 := K6.rowOther w.heap.size (mk 16 f) (by omega)
      have K7 := K7.rowOther w.heap.size (mk 16 f) (by omega)
      have K2 := K2.row 16 f
      have HB : Hid (Below w.heap.size w (x0.setRow w.heap.size (mk 16 f))) := below_setRow HB.out (Nat.le_refl _) _
      clear hHeld
      generalize x0.setRow w.heap.size (mk 16 f) = x1 at *
      refine hK.out _ _ ⟨K6, K7⟩ (fun hHeld => ?_)
      clear hK K
      try simp only [Act.put, List.setIfInBounds_toArray, List.set_cons_zero, List.set_cons_succ]
      refine wpAnyH_ready (rs := [8]) (by kernel_rfl) (by simp) ?_
      refine AllReadyH.cons rfl (fun K hK => ?_) AllReadyH.nil
      have st1 := run_store_blk (P := Try.prog) (g := tri (G 0) (G 1) t) K3
      have ms1 : (mk 3 (tri (G 0) (G 1) t)).size = 3 := mk_size 3 _
      go_simp
      clear st1 ms1
      have K2 := K2.rowOther (w.heap.size + 1) (mk 3 (tri (G 0) (G 1) t)) (by omega)
      have K6 := K6.rowOther (w.heap.size + 1) (mk 3 (tri (G 0) (G 1) t)) (by omega)
      have K7 := K7.rowOther (w.heap.size + 1) (mk 3 (tri (G 0) (G 1) t)) (by omega)
      have K3 := K3.row 3 (tri (G 0) (G 1) t)
      have HB : Hid (Below w.heap.size w (x1.setRow (w.heap.size + 1) (mk 3 (tri (G 0) (G 1) t)))) := below_setRow HB.out (by omega) _
      clear hHeld
      generalize x1.setRow (w.heap.size + 1) (mk 3 (tri (G 0) (G 1) t)) = x2 at *
      refine hK.out _ _ ⟨K6, K7⟩ (fun hHeld => ?_)
      clear hK K
      try simp only [Act.put, List.setIfInBounds_toArray, List.set_cons_zero, List.set_cons_succ]
      refine wpAnyH_done (by kernel_rfl) ?_ _
      clear hHeld
      go_wp2_with fail
      try simp only [Exit.inBlock, Exit.then]
      exact ret_cc Try.underlying29 rfl sizeB Try.underlying70 rfl sizeA rfl rfl rfl rfl K2 K3 ⟨f, _, rfl, HB.out⟩
    | false =>
      go_wp2_with fail
      refine (pick_any _ (w.heap.size + 2) _ (n : Int) HC.out (by omega) (by omega) (by omega)).mono ?_
      rintro e w9 ⟨k, hk, rfl, hc2, ht2⟩
      have K2 := K2.turned ht2 (by omega)
      have K3 := K3.turned ht2 (by omega)
      have K6 := K6.turned ht2 (by omega)
      have K7 := K7.turned ht2 (by omega)
      have CE := CE.turned ht2 (by omega)
      have HT := Lib.hid (HT.out.trans ht2)
      have hk0 : (0 : Int) ≤ (k : Int) := by omega
      have hkn : k < n := by omega
      clear hc2 ht2 HC
      go_wp2_with (first | ((with_reducible show wpList _ _ _ (Oper.mk _ (Op.load 61 _) _ _ _ _ :: _) _ _); refine loadAC (CE) (by omega) rfl rfl rfl ?_) | ((with_reducible show wpList _ _ _ (Oper.mk _ (Op.store 61 _ _) _ _ _ _ :: _) _ _); refine storeC (K7) rfl rfl rfl rfl ?_))
      have K2 := K2.rowOther b7 (mk 2 (fun j => empF f (k * 2 + j))) (by omega)
      have K3 := K3.rowOther b7 (mk 2 (fun j => empF f (k * 2 + j))) (by omega)
      have K6 := K6.rowOther b7 (mk 2 (fun j => empF f (k * 2 + j))) (by omega)
      have K7 := K7.row 2 (fun j => empF f (k * 2 + j))
      have HT := Lib.hid (HT.out.rowNew (b := b7) (by simp; omega) (mk 2 (fun j => empF f (k * 2 + j))))
      generalize w9.setRow b7 (mk 2 (fun j => empF f (k * 2 + j))) = wz at *
      obtain ⟨G, hG⟩ : ∃ G : Nat → Int, G = (fun j => empF f (k * 2 + j)) := ⟨_, rfl⟩
      rw [← hG] at K7
      clear hG
      refine wp_region_held_drew (S := fun W => Blk W b6 16 f 29 ∧ Blk W b7 2 G 61) (by kernel_rfl) (⟨K6.drew, K7.drew⟩) (fun hHeld => ?_)
      have HB : Hid (Below w.heap.size w wz.drew) := (below_three rfl HT.out).drew
      have K2 : Blk wz.drew w.heap.size 16 (fun _ => 0) 29 := K2.drew
      have K3 : Blk wz.drew (w.heap.size + 1) 3 (fun _ => 0) 70 := K3.drew
      have K6 : Blk wz.drew b6 16 f 29 := K6.drew
      have K7 : Blk wz.drew b7 2 G 61 := K7.drew
      generalize wz.drew = x0 at *
      refine wpAnyH_take (i := 0) (oi := { dst := some 36, op := _, type := _, pos := _, after := _, guard := _ }) (v := .agg (mk 16 f)) rfl (by kernel_rfl) (by kernel_rfl) (by kernel_rfl) (fun _ _ _ h => h) (Or.inl ⟨by rfl, fun _ q => execB q.1 rfl rfl⟩) (by assumption) ?_
      try simp only [Act.put, List.setIfInBounds_toArray, List.set_cons_zero, List.set_cons_succ]
      refine wpAnyH_take (i := 1) (oi := { dst := some 37, op := _, type := _, pos := _, after := _, guard := _ }) (v := .pointer (some ⟨b7, 0, none⟩)) rfl (by kernel_rfl) (by kernel_rfl) (by kernel_rfl) (fun _ _ _ h => h) (Or.inl ⟨by rfl, by intro w hSw; clear hSw; go_simp; (try with_reducible rfl)⟩) (by assumption) ?_
      try simp only [Act.put, List.setIfInBounds_toArray, List.set_cons_zero, List.set_cons_succ]
      refine wpAnyH_take (i := 2) (oi := { dst := some 38, op := _, type := _, pos := _, after := _, guard := _ }) (v := .int .i64 (G 0)) rfl (by kernel_rfl) (by kernel_rfl) (by kernel_rfl) (fun _ _ _ h => h) (Or.inl ⟨by rfl, by intro W q; have c0 := q.2.cell (i := 0) (by omega); clear q; go_simp⟩) (by assumption) ?_
      try simp only [Act.put, List.setIfInBounds_toArray, List.set_cons_zero, List.set_cons_succ]
      refine wpAnyH_take (i := 3) (oi := { dst := some 39, op := _, type := _, pos := _, after := _, guard := _ }) (v := .pointer (some ⟨b7, 1, none⟩)) rfl (by kernel_rfl) (by kernel_rfl) (by kernel_rfl) (fun _ _ _ h => h) (Or.inl ⟨by rfl, by intro w hSw; clear hSw; go_simp; (try with_reducible rfl)⟩) (by assumption) ?_
      try simp only [Act.put, List.setIfInBounds_toArray, List.set_cons_zero, List.set_cons_succ]
      refine wpAnyH_take (i := 4) (oi := { dst := some 40, op := _, type := _, pos := _, after := _, guard := _ }) (v := .int .i64 (G 1)) rfl (by kernel_rfl) (by kernel_rfl) (by kernel_rfl) (fun _ _ _ h => h) (Or.inl ⟨by rfl, by intro W q; have c0 := q.2.cell (i := 1) (by omega); clear q; go_simp⟩) (by assumption) ?_
      try simp only [Act.put, List.setIfInBounds_toArray, List.set_cons_zero, List.set_cons_succ]
      refine wpAnyH_take (i := 5) (oi := { dst := some 41, op := _, type := _, pos := _, after := _, guard := _ }) (v := .int .i64 t) rfl (by kernel_rfl) (by kernel_rfl) (by kernel_rfl) (fun _ _ _ h => h) (Or.inl ⟨by rfl, by intro w hSw; clear hSw; go_simp; (try with_reducible rfl)⟩) (by assumption) ?_
      try simp only [Act.put, List.setIfInBounds_toArray, List.set_cons_zero, List.set_cons_succ]
      refine wpAnyH_take (i := 6) (oi := { dst := some 42, op := _, type := _, pos := _, after := _, guard := _ }) (v := .agg (mk 3 (tri (G 0) (G 1) t))) rfl (by kernel_rfl) (by kernel_rfl) (by kernel_rfl) (fun _ _ _ h => h) (Or.inl ⟨by rfl, fun _ _ => exec_buildA _ _ _ rfl rfl rfl rfl⟩) (by assumption) ?_
      try simp only [Act.put, List.setIfInBounds_toArray, List.set_cons_zero, List.set_cons_succ]
      refine wpAnyH_ready (rs := [7]) (by kernel_rfl) (by simp) ?_
      refine AllReadyH.cons rfl (fun K hK => ?_) AllReadyH.nil
      have st1 := run_store_blk (P := Try.prog) (g := f) K2
      have ms1 : (mk 16 f).size = 16 := mk_size 16 _
      go_simp
      clear st1 ms1
      have K3 := K3.rowOther w.heap.size (mk 16 f) (by omega)
      have K6 := K6.rowOther w.heap.size (mk 16 f) (by omega)
      have K7 := K7.rowOther w.heap.size (mk 16 f) (by omega)
      have K2 := K2.row 16 f
      have HB : Hid (Below w.heap.size w (x0.setRow w.heap.size (mk 16 f))) := below_setRow HB.out (Nat.le_refl _) _
      clear hHeld
      generalize x0.setRow w.heap.size (mk 16 f) = x1 at *
      refine hK.out _ _ ⟨K6, K7⟩ (fun hHeld => ?_)
      clear hK K
      try simp only [Act.put, List.setIfInBounds_toArray, List.set_cons_zero, List.set_cons_succ]
      refine wpAnyH_ready (rs := [8]) (by kernel_rfl) (by simp) ?_
      refine AllReadyH.cons rfl (fun K hK => ?_) AllReadyH.nil
      have st1 := run_store_blk (P := Try.prog) (g := tri (G 0) (G 1) t) K3
      have ms1 : (mk 3 (tri (G 0) (G 1) t)).size = 3 := mk_size 3 _
      go_simp
      clear st1 ms1
      have K2 := K2.rowOther (w.heap.size + 1) (mk 3 (tri (G 0) (G 1) t)) (by omega)
      have K6 := K6.rowOther (w.heap.size + 1) (mk 3 (tri (G 0) (G 1) t)) (by omega)
      have K7 := K7.rowOther (w.heap.size + 1) (mk 3 (tri (G 0) (G 1) t)) (by omega)
      have K3 := K3.row 3 (tri (G 0) (G 1) t)
      have HB : Hid (Below w.heap.size w (x1.setRow (w.heap.size + 1) (mk 3 (tri (G 0) (G 1) t)))) := below_setRow HB.out (by omega) _
      clear hHeld
      generalize x1.setRow (w.heap.size + 1) (mk 3 (tri (G 0) (G 1) t)) = x2 at *
      refine hK.out _ _ ⟨K6, K7⟩ (fun hHeld => ?_)
      clear hK K
      try simp only [Act.put, List.setIfInBounds_toArray, List.set_cons_zero, List.set_cons_succ]
      refine wpAnyH_done (by kernel_rfl) ?_ _
      clear hHeld
      go_wp2_with fail
      try simp only [Exit.inBlock, Exit.then]
      exact ret_cc Try.underlying29 rfl sizeB Try.underlying70 rfl sizeA rfl rfl rfl rfl K2 K3 ⟨f, _, rfl, HB.out⟩
  · obtain ⟨wz, hwz⟩ : ∃ wz, wz = w7 := ⟨_, rfl⟩
    rw [← hwz] at K2 K3 K6 K7 HT ⊢
    clear hwz
    go_wp2_with fail
    obtain ⟨G, hG⟩ : ∃ G : Nat → Int, G = g := ⟨_, rfl⟩
    rw [← hG] at K7
    clear hG
    refine wp_region_held_drew (S := fun W => Blk W b6 16 f 29 ∧ Blk W b7 2 G 61) (by kernel_rfl) (⟨K6.drew, K7.drew⟩) (fun hHeld => ?_)
    have HB : Hid (Below w.heap.size w wz.drew) := (below_three rfl HT.out).drew
    have K2 : Blk wz.drew w.heap.size 16 (fun _ => 0) 29 := K2.drew
    have K3 : Blk wz.drew (w.heap.size + 1) 3 (fun _ => 0) 70 := K3.drew
    have K6 : Blk wz.drew b6 16 f 29 := K6.drew
    have K7 : Blk wz.drew b7 2 G 61 := K7.drew
    generalize wz.drew = x0 at *
    refine wpAnyH_take (i := 0) (oi := { dst := some 36, op := _, type := _, pos := _, after := _, guard := _ }) (v := .agg (mk 16 f)) rfl (by kernel_rfl) (by kernel_rfl) (by kernel_rfl) (fun _ _ _ h => h) (Or.inl ⟨by rfl, fun _ q => execB q.1 rfl rfl⟩) (by assumption) ?_
    try simp only [Act.put, List.setIfInBounds_toArray, List.set_cons_zero, List.set_cons_succ]
    refine wpAnyH_take (i := 1) (oi := { dst := some 37, op := _, type := _, pos := _, after := _, guard := _ }) (v := .pointer (some ⟨b7, 0, none⟩)) rfl (by kernel_rfl) (by kernel_rfl) (by kernel_rfl) (fun _ _ _ h => h) (Or.inl ⟨by rfl, by intro w hSw; clear hSw; go_simp; (try with_reducible rfl)⟩) (by assumption) ?_
    try simp only [Act.put, List.setIfInBounds_toArray, List.set_cons_zero, List.set_cons_succ]
    refine wpAnyH_take (i := 2) (oi := { dst := some 38, op := _, type := _, pos := _, after := _, guard := _ }) (v := .int .i64 (G 0)) rfl (by kernel_rfl) (by kernel_rfl) (by kernel_rfl) (fun _ _ _ h => h) (Or.inl ⟨by rfl, by intro W q; have c0 := q.2.cell (i := 0) (by omega); clear q; go_simp⟩) (by assumption) ?_
    try simp only [Act.put, List.setIfInBounds_toArray, List.set_cons_zero, List.set_cons_succ]
    refine wpAnyH_take (i := 3) (oi := { dst := some 39, op := _, type := _, pos := _, after := _, guard := _ }) (v := .pointer (some ⟨b7, 1, none⟩)) rfl (by kernel_rfl) (by kernel_rfl) (by kernel_rfl) (fun _ _ _ h => h) (Or.inl ⟨by rfl, by intro w hSw; clear hSw; go_simp; (try with_reducible rfl)⟩) (by assumption) ?_
    try simp only [Act.put, List.setIfInBounds_toArray, List.set_cons_zero, List.set_cons_succ]
    refine wpAnyH_take (i := 4) (oi := { dst := some 40, op := _, type := _, pos := _, after := _, guard := _ }) (v := .int .i64 (G 1)) rfl (by kernel_rfl) (by kernel_rfl) (by kernel_rfl) (fun _ _ _ h => h) (Or.inl ⟨by rfl, by intro W q; have c0 := q.2.cell (i := 1) (by omega); clear q; go_simp⟩) (by assumption) ?_
    try simp only [Act.put, List.setIfInBounds_toArray, List.set_cons_zero, List.set_cons_succ]
    refine wpAnyH_take (i := 5) (oi := { dst := some 41, op := _, type := _, pos := _, after := _, guard := _ }) (v := .int .i64 t) rfl (by kernel_rfl) (by kernel_rfl) (by kernel_rfl) (fun _ _ _ h => h) (Or.inl ⟨by rfl, by intro w hSw; clear hSw; go_simp; (try with_reducible rfl)⟩) (by assumption) ?_
    try simp only [Act.put, List.setIfInBounds_toArray, List.set_cons_zero, List.set_cons_succ]
    refine wpAnyH_take (i := 6) (oi := { dst := some 42, op := _, type := _, pos := _, after := _, guard := _ }) (v := .agg (mk 3 (tri (G 0) (G 1) t))) rfl (by kernel_rfl) (by kernel_rfl) (by kernel_rfl) (fun _ _ _ h => h) (Or.inl ⟨by rfl, fun _ _ => exec_buildA _ _ _ rfl rfl rfl rfl⟩) (by assumption) ?_
    try simp only [Act.put, List.setIfInBounds_toArray, List.set_cons_zero, List.set_cons_succ]
    refine wpAnyH_ready (rs := [7]) (by kernel_rfl) (by simp) ?_
    refine AllReadyH.cons rfl (fun K hK => ?_) AllReadyH.nil
    have st1 := run_store_blk (P := Try.prog) (g := f) K2
    have ms1 : (mk 16 f).size = 16 := mk_size 16 _
    go_simp
    clear st1 ms1
    have K3 := K3.rowOther w.heap.size (mk 16 f) (by omega)
    have K6 := K6.rowOther w.heap.size (mk 16 f) (by omega)
    have K7 := K7.rowOther w.heap.size (mk 16 f) (by omega)
    have K2 := K2.row 16 f
    have HB : Hid (Below w.heap.size w (x0.setRow w.heap.size (mk 16 f))) := below_setRow HB.out (Nat.le_refl _) _
    clear hHeld
    generalize x0.setRow w.heap.size (mk 16 f) = x1 at *
    refine hK.out _ _ ⟨K6, K7⟩ (fun hHeld => ?_)
    clear hK K
    try simp only [Act.put, List.setIfInBounds_toArray, List.set_cons_zero, List.set_cons_succ]
    refine wpAnyH_ready (rs := [8]) (by kernel_rfl) (by simp) ?_
    refine AllReadyH.cons rfl (fun K hK => ?_) AllReadyH.nil
    have st1 := run_store_blk (P := Try.prog) (g := tri (G 0) (G 1) t) K3
    have ms1 : (mk 3 (tri (G 0) (G 1) t)).size = 3 := mk_size 3 _
    go_simp
    clear st1 ms1
    have K2 := K2.rowOther (w.heap.size + 1) (mk 3 (tri (G 0) (G 1) t)) (by omega)
    have K6 := K6.rowOther (w.heap.size + 1) (mk 3 (tri (G 0) (G 1) t)) (by omega)
    have K7 := K7.rowOther (w.heap.size + 1) (mk 3 (tri (G 0) (G 1) t)) (by omega)
    have K3 := K3.row 3 (tri (G 0) (G 1) t)
    have HB : Hid (Below w.heap.size w (x1.setRow (w.heap.size + 1) (mk 3 (tri (G 0) (G 1) t)))) := below_setRow HB.out (by omega) _
    clear hHeld
    generalize x1.setRow (w.heap.size + 1) (mk 3 (tri (G 0) (G 1) t)) = x2 at *
    refine hK.out _ _ ⟨K6, K7⟩ (fun hHeld => ?_)
    clear hK K
    try simp only [Act.put, List.setIfInBounds_toArray, List.set_cons_zero, List.set_cons_succ]
    refine wpAnyH_done (by kernel_rfl) ?_ _
    clear hHeld
    go_wp2_with fail
    try simp only [Exit.inBlock, Exit.then]
    exact ret_cc Try.underlying29 rfl sizeB Try.underlying70 rfl sizeA rfl rfl rfl rfl K2 K3 ⟨f, _, rfl, HB.out⟩
end Go.Proofs.Ytlboglcpbbnbcab
namespace Go.Proofs.Ytlboglcpbbnbcab
open Go.RowKit Plain
attribute [local go_sem] store_new
set_option linter.unusedSimpArgs false
set_option linter.unusedVariables false
set_option maxHeartbeats 1000000 in
theorem drawRefute_any (a : Option Addr) (len cap : Nat) (w : World) (hl : len ≤ 65536) (hr : CodeRow w a len w.heap.size) :
    Calls Try.prog 55 #[.slice a len cap] w fun e w' => ∃ (f : Nat → Int) (d n : Int), e = .returned (.tuple #[.agg (mk 16 f), .int .i64 d, .int .i64 n]) ∧ Below w.heap.size w w' := by
  have z16 := zero16
  have K2 := Blk.new w 16 (fun _ => 0) 29
  have HB := Lib.hid ((Below.refl w.heap.size w).alloc (Nat.le_refl _) (.cells (mk 16 fun _ => 0) 29))
  have HR := Lib.hid (hr.later ((Below.refl _ w).alloc (Nat.le_refl _) (.cells (mk 16 fun _ => 0) 29)))
  have HR0 := Lib.hid hr
  clear hr
  go_enter Try.func55, Try.ntmps55
  go_wp2_with fail
  refine (drawLasts_any a len cap _ hl HR.out).mono ?_
  rintro e w2 ⟨f, n, rfl, hb⟩
  have hw2 : w.heap.size < w2.heap.size := by have := hb.size; simp at this; omega
  have K2 := (K2.below hb (by simp)).alloc (.cells (mk 16 f) 29)
  have K5 := Blk.new w2 16 f 29
  have HB2 : Hid (Below w.heap.size w w2) := HB.out.trans (hb.mono HB.out.size)
  have HB : Hid (Below w.heap.size w (w2.alloc (.cells (mk 16 f) 29))) := HB2.out.alloc HB2.out.size _
  clear hb
  go_wp2_with fail
  have HC := Lib.hid (Cur.new (w2.alloc (.cells (mk 16 f) 29)) a len cap hl (HR0.out.later HB.out))
  have hsz : (w2.alloc (.cells (mk 16 f) 29)).heap.size = w2.heap.size + 1 := World.size_alloc _ _
  rw [hsz] at HC
  have K2 := K2.alloc (.cells #[.slice a len cap, .int .i64 0, .int .u64 0] 108)
  have K5 := K5.alloc (.cells #[.slice a len cap, .int .i64 0, .int .u64 0] 108)
  have HB : Hid (Below w.heap.size w ((w2.alloc (.cells (mk 16 f) 29)).alloc (.cells #[.slice a len cap, .int .i64 0, .int .u64 0] 108))) := HB.out.alloc HB.out.size _
  have hs2 := HB2.out.size
  have hk2 := K2.lt
  have hne : w.heap.size ≠ w2.heap.size := by omega
  clear HB2 HR0 HR hsz
  generalize (w2.alloc (.cells (mk 16 f) 29)).alloc (.cells #[.slice a len cap, .int .i64 0, .int .u64 0] 108) = w3 at *
  refine wp_region_held_drew (S := fun W => Blk W w2.heap.size 16 f 29) (by kernel_rfl) (K5.drew) (fun hHeld => ?_)
  have K2 : Blk w3.drew w.heap.size 16 (fun _ => 0) 29 := K2.drew
  have K5 : Blk w3.drew w2.heap.size 16 f 29 := K5.drew
  have HB : Hid (Below w.heap.size w w3.drew) := HB.out.drew
  have HC := Lib.hid HC.out.drew
  generalize w3.drew = x0 at *
  refine wpAnyH_take (i := 0) (oi := { dst := some 16, op := _, type := _, pos := _, after := _, guard := _ }) (v := .agg (mk 16 f)) rfl (by kernel_rfl) (by kernel_rfl) (by kernel_rfl) (fun _ _ _ h => h) (Or.inl ⟨by rfl, fun _ q => execB q rfl rfl⟩) (by assumption) ?_
  try simp only [Act.put, List.setIfInBounds_toArray, List.set_cons_zero, List.set_cons_succ]
  refine wpAnyH_take (i := 1) (oi := { dst := some 17, op := _, type := _, pos := _, after := _, guard := _ }) (v := .pointer (some ⟨w2.heap.size + 1, 0, none⟩)) rfl (by kernel_rfl) (by kernel_rfl) (by kernel_rfl) (fun _ _ _ h => h) (Or.inl ⟨by rfl, by intro w hSw; clear hSw; go_simp; (try with_reducible rfl)⟩) (by assumption) ?_
  try simp only [Act.put, List.setIfInBounds_toArray, List.set_cons_zero, List.set_cons_succ]
  refine wpAnyH_take (i := 3) (oi := { dst := some 19, op := _, type := _, pos := _, after := _, guard := _ }) (v := .int .i64 n) rfl (by kernel_rfl) (by kernel_rfl) (by kernel_rfl) (fun _ _ _ h => h) (Or.inl ⟨by rfl, by intro w hSw; clear hSw; go_simp; (try with_reducible rfl)⟩) (by assumption) ?_
  try simp only [Act.put, List.setIfInBounds_toArray, List.set_cons_zero, List.set_cons_succ]
  refine wpAnyH_ready (rs := [2]) (by kernel_rfl) (by simp) ?_
  refine AllReadyH.cons rfl (fun K hK => ?_) AllReadyH.nil
  go_simp
  refine (side_any _ (w2.heap.size + 1) _ HC.out (by omega)).mono ?_
  rintro e x1 ⟨d, rfl, hc2, ht2⟩
  have K2 := K2.turned ht2 (by omega)
  have K5 := K5.turned ht2 (by omega)
  have HB : Hid (Below w.heap.size w x1) := HB.out.trans (ht2.below HB.out.size (by omega))
  clear hc2 ht2 hHeld HC
  go_wp2_with fail
  refine hK.out _ _ K5 (fun hHeld => ?_)
  clear hK K
  try simp only [Act.put, List.setIfInBounds_toArray, List.set_cons_zero, List.set_cons_succ]
  refine wpAnyH_ready (rs := [4]) (by kernel_rfl) (by simp) ?_
  refine AllReadyH.cons rfl (fun K hK => ?_) AllReadyH.nil
  have st1 := run_store_blk (P := Try.prog) (g := f) K2
  have ms1 : (mk 16 f).size = 16 := mk_size 16 _
  go_simp
  clear st1 ms1
  have K5 := K5.rowOther w.heap.size (mk 16 f) (by omega)
  have K2 := K2.row 16 f
  have HB : Hid (Below w.heap.size w (x1.setRow w.heap.size (mk 16 f))) := below_setRow HB.out (Nat.le_refl _) _
  clear hHeld
  generalize x1.setRow w.heap.size (mk 16 f) = x2 at *
  refine hK.out _ _ K5 (fun hHeld => ?_)
  clear hK K
  try simp only [Act.put, List.setIfInBounds_toArray, List.set_cons_zero, List.set_cons_succ]
  refine wpAnyH_take (i := 5) (oi := { dst := some 3, op := _, type := _, pos := _, after := _, guard := _ }) (v := .int .i64 d) rfl (by kernel_rfl) (by kernel_rfl) (by kernel_rfl) (fun _ _ _ h => h) (Or.inl ⟨by rfl, by intro w hSw; clear hSw; go_simp; (try with_reducible rfl)⟩) (by assumption) ?_
  try simp only [Act.put, List.setIfInBounds_toArray, List.set_cons_zero, List.set_cons_succ]
  refine wpAnyH_take (i := 6) (oi := { dst := some 4, op := _, type := _, pos := _, after := _, guard := _ }) (v := .int .i64 n) rfl (by kernel_rfl) (by kernel_rfl) (by kernel_rfl) (fun _ _ _ h => h) (Or.inl ⟨by rfl, by intro w hSw; clear hSw; go_simp; (try with_reducible rfl)⟩) (by assumption) ?_
  try simp only [Act.put, List.setIfInBounds_toArray, List.set_cons_zero, List.set_cons_succ]
  refine wpAnyH_done (by kernel_rfl) ?_ _
  clear hHeld
  go_wp2_with fail
  try simp only [Exit.inBlock, Exit.then]
  exact retcttB K2 rfl rfl rfl ⟨f, d, n, rfl, HB.out⟩
end Go.Proofs.Ytlboglcpbbnbcab
