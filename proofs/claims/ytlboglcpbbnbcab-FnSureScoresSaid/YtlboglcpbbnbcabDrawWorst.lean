/-
  The contracts of the reference's draws for the worst tile: tight, DrawLasts, DrawSureScore, DrawWorstReply, DrawPlaceTile.
-/
import Derived.Test.YtlboglcpbbnbcabDrawTight
import Derived.Test.YtlboglcpbbnbcabTripKit
namespace Go.Proofs.Ytlboglcpbbnbcab
open Go.RowKit Plain
attribute [local go_sem] store_new
set_option linter.unusedSimpArgs false
set_option linter.unusedVariables false
set_option maxHeartbeats 8000000 in
set_option maxRecDepth 20000 in
theorem tight_any (w : World) (B m : Nat) (hc : Cur w B m) (hm : m ≤ 999980000) :
    Calls Try.prog 106 #[.pointer (some ⟨B, 0, none⟩)] w fun e w' => ∃ f, e = .returned (.agg (mk 16 f)) ∧ Cur w' B (m + 300) ∧ Turned B w w' := by
  have z16 := zero16
  have D0 := Lib.hid ((Dr.start hc).alloc (.cells (mk 16 fun _ => 0) 29))
  have K2 := Blk.new w 16 (fun _ => 0) 29
  have hB := hc.lt
  clear hc
  go_enter Try.func106, Try.ntmps106
  go_wp2_with fail
  refine (one_any _ B m 6 D0.out.1 (by omega) (by omega) (by omega)).mono ?_
  rintro e w1 ⟨c, rfl, hc1, ht1⟩
  have K2 := K2.turned ht1 (by omega)
  have D1 := Lib.hid (D0.out.call hc1 ht1)
  clear hc1 ht1 D0
  cases c with
  | true =>
    go_wp2_with fail
    refine (board_any _ B (m + 2) D1.out.1 (by omega)).mono ?_
    rintro e w2 ⟨F, rfl, hc1, ht1⟩
    have K2 := K2.turned ht1 (by omega)
    have D1 := Lib.hid (D1.out.call hc1 ht1)
    clear hc1 ht1
    go_wp2_with ((with_reducible show wpList _ _ _ (Oper.mk _ (Op.store 29 _ _) _ _ _ _ :: _) _ _); refine storeB (K2) rfl rfl rfl rfl ?_)
    try simp only [Exit.inBlock, Exit.then]
    exact retcB (K2.row 16 _) rfl rfl rfl ⟨_, rfl, (D1.out.row (Nat.le_refl _) _).1.more (by omega), (D1.out.row (Nat.le_refl _) _).2.1⟩
  | false =>
    have h3 : w.heap.size < w1.heap.size := K2.lt
    have KN := Blk.new w1 16 (fun _ => 0) 29
    have HS : Hid (TS w B (m + 2) w1.heap.size (fun _ => 0) (w1.alloc (.cells (mk 16 fun _ => 0) 29))) := ⟨D1.out.alloc _, K2.alloc _, Blk.new _ _ _ _, h3⟩
    clear D1 K2
    go_wp2_with ((with_reducible show wpList _ _ _ (Oper.mk _ (Op.store 29 _ _) _ _ _ _ :: _) _ _); refine storeB (KN) rfl rfl rfl rfl ?_)
    rw [World.setRow_alloc_new]
    clear KN
    generalize w1.alloc (.cells (mk 16 fun _ => 0) 29) = w2 at *
    generalize w1.heap.size = b3 at *
    go_loopg [4] 4 (fun g s4 wr => ∃ (r m1 : Nat) (G : Nat → Int), r + g = 4 ∧ s4 = .int .i64 r ∧ m1 ≤ m + 2 + r * 16 ∧ Hid (TS w B m1 b3 G wr))
    case atStart => exact ⟨0, m + 2, _, by omega, rfl, by omega, HS⟩
    case round =>
      clear HS
      obtain ⟨r, m1, G, hrg, rfl, hm1, HS⟩ := hrel
      cases gk with
      | zero =>
        have hr : ¬ ((r : Int) < 4) := by omega
        obtain rfl : r = 4 := by omega
        clear hrg hr
        go_wp2_with fail
        have hs := HS.out
        clear HS
        refine (pick_any _ B m1 4 hs.1.1 (by omega) (by omega) (by omega)).mono ?_
        rintro e w5 ⟨k, hk, rfl, hc2, ht2⟩
        have HS := Lib.hid (hs.call hc2 ht2)
        clear hc2 ht2 hs
        have hk0 : (0 : Int) ≤ (k : Int) := by omega
        go_wp2_with fail
        go_loopg [6] k (fun g s6 wr => ∃ (n m1 : Nat) (G : Nat → Int), n = g ∧ s6 = .int .i64 (n : Int) ∧ m1 + n * 4 ≤ m + 90 ∧ Hid (TS w B m1 b3 G wr))
        case atStart => exact ⟨k, _, G, rfl, by go_num, by omega, HS⟩
        case round =>
          clear HS
          obtain ⟨n, m1, F, rfl, rfl, hm1, HS⟩ := hrel
          cases n with
          | zero =>
            have hn : ¬ ((0 : Int) < ((0 : Nat) : Int)) := by omega
            go_wp2_with fail
            have hs := HS.out
            clear HS
            refine (one_any _ B m1 3 hs.1.1 (by omega) (by omega) (by omega)).mono ?_
            rintro e w6 ⟨c, rfl, hc2, ht2⟩
            have HS := Lib.hid (hs.call hc2 ht2)
            clear hc2 ht2 hs
            cases c with
            | true =>
              go_wp2_with fail
              refine wp_region_held_drew (S := fun _ => True) (by kernel_rfl) trivial (fun hHeld => ?_)
              have hs := HS.out.drew
              clear HS
              generalize w6.drew = x0 at *
              refine wpAnyH_take (i := 0) (oi := { dst := some 54, op := _, type := _, pos := _, after := _, guard := _ }) (v := .pointer (some ⟨B, 0, none⟩)) rfl (by kernel_rfl) (by kernel_rfl) (by kernel_rfl) (fun _ _ _ h => h) (Or.inl ⟨by rfl, by intro w hSw; clear hSw; go_simp; (try with_reducible rfl)⟩) trivial ?_
              try simp only [Act.put, List.setIfInBounds_toArray, List.set_cons_zero, List.set_cons_succ]
              refine wpAnyH_take (i := 2) (oi := { dst := some 56, op := _, type := _, pos := _, after := _, guard := _ }) (v := .pointer (some ⟨B, 0, none⟩)) rfl (by kernel_rfl) (by kernel_rfl) (by kernel_rfl) (fun _ _ _ h => h) (Or.inl ⟨by rfl, by intro w hSw; clear hSw; go_simp; (try with_reducible rfl)⟩) trivial ?_
              try simp only [Act.put, List.setIfInBounds_toArray, List.set_cons_zero, List.set_cons_succ]
              refine wpAnyH_take (i := 4) (oi := { dst := some 58, op := _, type := _, pos := _, after := _, guard := _ }) (v := .pointer (some ⟨b3, 0, none⟩)) rfl (by kernel_rfl) (by kernel_rfl) (by kernel_rfl) (fun _ _ _ h => h) (Or.inl ⟨by rfl, by intro w hSw; clear hSw; go_simp; (try with_reducible rfl)⟩) trivial ?_
              try simp only [Act.put, List.setIfInBounds_toArray, List.set_cons_zero, List.set_cons_succ]
              refine wpAnyH_ready (rs := [1]) (by kernel_rfl) (by simp) ?_
              refine AllReadyH.cons rfl (fun K hK => ?_) AllReadyH.nil
              go_simp
              refine (pick_any _ B (m1 + 2) 4 hs.1.1 (by omega) (by omega) (by omega)).mono ?_
              rintro e y9 ⟨ka, hka, rfl, hc2, ht2⟩
              have hs := hs.call hc2 ht2
              clear hc2 ht2
              have hka0 : (0 : Int) ≤ (ka : Int) := by omega
              go_wp2_with fail
              refine hK.out _ _ trivial (fun hHeld => ?_)
              clear hK K
              try simp only [Act.put, List.setIfInBounds_toArray, List.set_cons_zero, List.set_cons_succ]
              refine wpAnyH_take (i := 5) (oi := { dst := some 59, op := _, type := _, pos := _, after := _, guard := _ }) (v := .pointer (some ⟨b3, ka * 4, none⟩)) rfl (by kernel_rfl) (by kernel_rfl) (by kernel_rfl) (fun _ _ _ h => h) (Or.inl ⟨by rfl, by intro w hSw; clear hSw; go_simp; (try with_reducible rfl)⟩) trivial ?_
              try simp only [Act.put, List.setIfInBounds_toArray, List.set_cons_zero, List.set_cons_succ]
              refine wpAnyH_ready (rs := [3]) (by kernel_rfl) (by simp) ?_
              refine AllReadyH.cons rfl (fun K hK => ?_) AllReadyH.nil
              go_simp
              refine (pick_any _ B (m1 + 2 + 2) 4 hs.1.1 (by omega) (by omega) (by omega)).mono ?_
              rintro e y10 ⟨kb, hkb, rfl, hc2, ht2⟩
              have hs := hs.call hc2 ht2
              clear hc2 ht2
              have hkb0 : (0 : Int) ≤ (kb : Int) := by omega
              go_wp2_with fail
              refine hK.out _ _ trivial (fun hHeld => ?_)
              clear hK K
              try simp only [Act.put, List.setIfInBounds_toArray, List.set_cons_zero, List.set_cons_succ]
              refine wpAnyH_take (i := 6) (oi := { dst := some 60, op := _, type := _, pos := _, after := _, guard := _ }) (v := .pointer (some ⟨b3, ka * 4 + kb, none⟩)) rfl (by kernel_rfl) (by kernel_rfl) (by kernel_rfl) (fun _ _ _ h => h) (Or.inl ⟨by rfl, by intro w hSw; clear hSw; go_simp; (try with_reducible rfl)⟩) trivial ?_
              try simp only [Act.put, List.setIfInBounds_toArray, List.set_cons_zero, List.set_cons_succ]
              refine wpAnyH_ready (rs := [7]) (by kernel_rfl) (by simp) ?_
              refine AllReadyH.cons rfl (fun K hK => ?_) AllReadyH.nil
              have c3 := hs.2.2.1.cell (i := ka * 4 + kb) (by omega)
              have f3 := hs.2.2.1.free (ka * 4 + kb)
              go_simp
              clear c3 f3
              refine hK.out _ _ trivial (fun hHeld => ?_)
              clear hK K
              try simp only [Act.put, List.setIfInBounds_toArray, List.set_cons_zero, List.set_cons_succ]
              refine wpAnyH_done (by kernel_rfl) ?_ _
              have HS := Lib.hid (hs.set (i := ka * 4 + kb) (by omega) (3))
              clear hs hHeld
              have hs := HS.out
              clear HS
              obtain ⟨h1, h2, h3, h4⟩ := hs
              have HD := Lib.hid h1
              clear h1
              go_wp2_with (first | ((with_reducible show wpList _ _ _ (Oper.mk _ (Op.load 29 _) _ _ _ _ :: _) _ _); refine loadB (h3) rfl rfl rfl ?_) | ((with_reducible show wpList _ _ _ (Oper.mk _ (Op.store 29 _ _) _ _ _ _ :: _) _ _); refine storeB (h2) rfl rfl rfl rfl ?_))
              try simp only [Exit.inBlock, Exit.then]
              exact retcB (h2.row 16 _) rfl rfl rfl ⟨_, rfl, (HD.out.row (Nat.le_refl _) _).1.more (by omega), (HD.out.row (Nat.le_refl _) _).2.1⟩
            | false =>
              have hs := HS.out
              clear HS
              obtain ⟨h1, h2, h3, h4⟩ := hs
              have HD := Lib.hid h1
              clear h1
              go_wp2_with (first | ((with_reducible show wpList _ _ _ (Oper.mk _ (Op.load 29 _) _ _ _ _ :: _) _ _); refine loadB (h3) rfl rfl rfl ?_) | ((with_reducible show wpList _ _ _ (Oper.mk _ (Op.store 29 _ _) _ _ _ _ :: _) _ _); refine storeB (h2) rfl rfl rfl rfl ?_))
              try simp only [Exit.inBlock, Exit.then]
              exact retcB (h2.row 16 _) rfl rfl rfl ⟨_, rfl, (HD.out.row (Nat.le_refl _) _).1.more (by omega), (HD.out.row (Nat.le_refl _) _).2.1⟩
          | succ n =>
            have hn : (0 : Int) < ((n + 1 : Nat) : Int) := by omega
            have hn0 : (0 : Int) ≤ (n : Int) := by omega
            go_wp2_with fail
            refine wp_region_held_drew (S := fun _ => True) (by kernel_rfl) trivial (fun hHeld => ?_)
            have hs := HS.out.drew
            clear HS
            generalize wr.drew = x0 at *
            refine wpAnyH_take (i := 0) (oi := { dst := some 45, op := _, type := _, pos := _, after := _, guard := _ }) (v := .pointer (some ⟨B, 0, none⟩)) rfl (by kernel_rfl) (by kernel_rfl) (by kernel_rfl) (fun _ _ _ h => h) (Or.inl ⟨by rfl, by intro w hSw; clear hSw; go_simp; (try with_reducible rfl)⟩) trivial ?_
            try simp only [Act.put, List.setIfInBounds_toArray, List.set_cons_zero, List.set_cons_succ]
            refine wpAnyH_take (i := 2) (oi := { dst := some 47, op := _, type := _, pos := _, after := _, guard := _ }) (v := .pointer (some ⟨B, 0, none⟩)) rfl (by kernel_rfl) (by kernel_rfl) (by kernel_rfl) (fun _ _ _ h => h) (Or.inl ⟨by rfl, by intro w hSw; clear hSw; go_simp; (try with_reducible rfl)⟩) trivial ?_
            try simp only [Act.put, List.setIfInBounds_toArray, List.set_cons_zero, List.set_cons_succ]
            refine wpAnyH_take (i := 4) (oi := { dst := some 49, op := _, type := _, pos := _, after := _, guard := _ }) (v := .pointer (some ⟨b3, 0, none⟩)) rfl (by kernel_rfl) (by kernel_rfl) (by kernel_rfl) (fun _ _ _ h => h) (Or.inl ⟨by rfl, by intro w hSw; clear hSw; go_simp; (try with_reducible rfl)⟩) trivial ?_
            try simp only [Act.put, List.setIfInBounds_toArray, List.set_cons_zero, List.set_cons_succ]
            refine wpAnyH_ready (rs := [1]) (by kernel_rfl) (by simp) ?_
            refine AllReadyH.cons rfl (fun K hK => ?_) AllReadyH.nil
            go_simp
            refine (pick_any _ B (m1) 4 hs.1.1 (by omega) (by omega) (by omega)).mono ?_
            rintro e y5 ⟨ka, hka, rfl, hc2, ht2⟩
            have hs := hs.call hc2 ht2
            clear hc2 ht2
            have hka0 : (0 : Int) ≤ (ka : Int) := by omega
            go_wp2_with fail
            refine hK.out _ _ trivial (fun hHeld => ?_)
            clear hK K
            try simp only [Act.put, List.setIfInBounds_toArray, List.set_cons_zero, List.set_cons_succ]
            refine wpAnyH_take (i := 5) (oi := { dst := some 50, op := _, type := _, pos := _, after := _, guard := _ }) (v := .pointer (some ⟨b3, ka * 4, none⟩)) rfl (by kernel_rfl) (by kernel_rfl) (by kernel_rfl) (fun _ _ _ h => h) (Or.inl ⟨by rfl, by intro w hSw; clear hSw; go_simp; (try with_reducible rfl)⟩) trivial ?_
            try simp only [Act.put, List.setIfInBounds_toArray, List.set_cons_zero, List.set_cons_succ]
            refine wpAnyH_ready (rs := [3]) (by kernel_rfl) (by simp) ?_
            refine AllReadyH.cons rfl (fun K hK => ?_) AllReadyH.nil
            go_simp
            refine (pick_any _ B (m1 + 2) 4 hs.1.1 (by omega) (by omega) (by omega)).mono ?_
            rintro e y6 ⟨kb, hkb, rfl, hc2, ht2⟩
            have hs := hs.call hc2 ht2
            clear hc2 ht2
            have hkb0 : (0 : Int) ≤ (kb : Int) := by omega
            go_wp2_with fail
            refine hK.out _ _ trivial (fun hHeld => ?_)
            clear hK K
            try simp only [Act.put, List.setIfInBounds_toArray, List.set_cons_zero, List.set_cons_succ]
            refine wpAnyH_take (i := 6) (oi := { dst := some 51, op := _, type := _, pos := _, after := _, guard := _ }) (v := .pointer (some ⟨b3, ka * 4 + kb, none⟩)) rfl (by kernel_rfl) (by kernel_rfl) (by kernel_rfl) (fun _ _ _ h => h) (Or.inl ⟨by rfl, by intro w hSw; clear hSw; go_simp; (try with_reducible rfl)⟩) trivial ?_
            try simp only [Act.put, List.setIfInBounds_toArray, List.set_cons_zero, List.set_cons_succ]
            refine wpAnyH_ready (rs := [7]) (by kernel_rfl) (by simp) ?_
            refine AllReadyH.cons rfl (fun K hK => ?_) AllReadyH.nil
            have c3 := hs.2.2.1.cell (i := ka * 4 + kb) (by omega)
            have f3 := hs.2.2.1.free (ka * 4 + kb)
            go_simp
            clear c3 f3
            refine hK.out _ _ trivial (fun hHeld => ?_)
            clear hK K
            try simp only [Act.put, List.setIfInBounds_toArray, List.set_cons_zero, List.set_cons_succ]
            refine wpAnyH_done (by kernel_rfl) ?_ _
            have HS := Lib.hid (hs.set (i := ka * 4 + kb) (by omega) (0))
            clear hs hHeld
            go_wp2_with fail
            go_roundg n
            case rel => exact ⟨n, m1 + 2 + 2, _, rfl, by go_num, by omega, HS⟩
            case measure => omega
      | succ g =>
        have hr4 : (r : Int) < 4 := by omega
        have hr5 : r < 4 := by omega
        have hr0 : (0 : Int) ≤ (r : Int) := by omega
        go_wp2_with fail
        go_loopg [5] 4 (fun h s5 wx => ∃ (c m2 : Nat) (G : Nat → Int), c + h = 4 ∧ s5 = .int .i64 c ∧ m2 ≤ m + 2 + r * 16 + c * 4 ∧ Hid (TS w B m2 b3 G wx))
        case atStart => exact ⟨0, m1, G, by omega, rfl, by omega, HS⟩
        case round =>
          clear HS
          obtain ⟨c, m1, H, hch, rfl, hm1, HS⟩ := hrel
          cases gk with
          | zero =>
            have hcc : ¬ ((c : Int) < 4) := by omega
            obtain rfl : c = 4 := by omega
            clear hch hcc
            go_wp2_with fail
            go_roundg g
            case rel => exact ⟨r + 1, m1, H, by omega, by go_num, by omega, HS⟩
            case measure => omega
          | succ h =>
            have hcc : (c : Int) < 4 := by omega
            have hc5 : c < 4 := by omega
            have hc0 : (0 : Int) ≤ (c : Int) := by omega
            have hw0 : IntKind.i64.wrap ((r : Int) + (c : Int)) = (r : Int) + (c : Int) := IntWalk.i64_in _ (by omega)
            obtain ⟨q, hq, hq0, hq1⟩ : ∃ q : Int, ((r : Int) + (c : Int)).tmod 2 = q ∧ 0 ≤ q ∧ q ≤ 1 := ⟨_, rfl, by rw [Int.tmod_eq_emod_of_nonneg (by omega)]; omega, by rw [Int.tmod_eq_emod_of_nonneg (by omega)]; omega⟩
            have hw1 : IntKind.i64.wrap q = q := IntWalk.i64_in _ (by omega)
            have hw2 : IntKind.i64.wrap (q * 2) = q * 2 := IntWalk.i64_in _ (by omega)
            have hw3 : IntKind.i64.wrap (1 + q * 2) = 1 + q * 2 := IntWalk.i64_in _ (by omega)
            go_wp2_with fail
            refine wp_region_held_drew (S := fun _ => True) (by kernel_rfl) trivial (fun hHeld => ?_)
            have hs := HS.out.drew
            clear HS
            generalize wr.drew = x0 at *
            refine wpAnyH_take (i := 0) (oi := { dst := some 20, op := _, type := _, pos := _, after := _, guard := _ }) (v := .int .i64 ((r : Int))) rfl (by kernel_rfl) (by kernel_rfl) (by kernel_rfl) (fun _ _ _ h => h) (Or.inl ⟨by rfl, by intro w hSw; clear hSw; go_simp; (try with_reducible rfl)⟩) trivial ?_
            try simp only [Act.put, List.setIfInBounds_toArray, List.set_cons_zero, List.set_cons_succ]
            refine wpAnyH_take (i := 1) (oi := { dst := some 21, op := _, type := _, pos := _, after := _, guard := _ }) (v := .int .i64 ((c : Int))) rfl (by kernel_rfl) (by kernel_rfl) (by kernel_rfl) (fun _ _ _ h => h) (Or.inl ⟨by rfl, by intro w hSw; clear hSw; go_simp; (try with_reducible rfl)⟩) trivial ?_
            try simp only [Act.put, List.setIfInBounds_toArray, List.set_cons_zero, List.set_cons_succ]
            refine wpAnyH_take (i := 2) (oi := { dst := some 22, op := _, type := _, pos := _, after := _, guard := _ }) (v := .int .i64 ((r : Int))) rfl (by kernel_rfl) (by kernel_rfl) (by kernel_rfl) (fun _ _ _ h => h) (Or.inl ⟨by rfl, by intro w hSw; clear hSw; go_simp; (try with_reducible rfl)⟩) trivial ?_
            try simp only [Act.put, List.setIfInBounds_toArray, List.set_cons_zero, List.set_cons_succ]
            refine wpAnyH_take (i := 3) (oi := { dst := some 23, op := _, type := _, pos := _, after := _, guard := _ }) (v := .int .i64 ((c : Int))) rfl (by kernel_rfl) (by kernel_rfl) (by kernel_rfl) (fun _ _ _ h => h) (Or.inl ⟨by rfl, by intro w hSw; clear hSw; go_simp; (try with_reducible rfl)⟩) trivial ?_
            try simp only [Act.put, List.setIfInBounds_toArray, List.set_cons_zero, List.set_cons_succ]
            refine wpAnyH_take (i := 4) (oi := { dst := some 24, op := _, type := _, pos := _, after := _, guard := _ }) (v := .int .i64 ((r : Int) + (c : Int))) rfl (by kernel_rfl) (by kernel_rfl) (by kernel_rfl) (fun _ _ _ h => h) (Or.inl ⟨by rfl, by intro w hSw; clear hSw; go_simp; (try with_reducible rfl)⟩) trivial ?_
            try simp only [Act.put, List.setIfInBounds_toArray, List.set_cons_zero, List.set_cons_succ]
            refine wpAnyH_take (i := 5) (oi := { dst := some 25, op := _, type := _, pos := _, after := _, guard := _ }) (v := .int .i64 (q)) rfl (by kernel_rfl) (by kernel_rfl) (by kernel_rfl) (fun _ _ _ h => h) (Or.inl ⟨by rfl, by intro w hSw; clear hSw; go_simp; (try with_reducible rfl)⟩) trivial ?_
            try simp only [Act.put, List.setIfInBounds_toArray, List.set_cons_zero, List.set_cons_succ]
            refine wpAnyH_take (i := 6) (oi := { dst := some 26, op := _, type := _, pos := _, after := _, guard := _ }) (v := .int .i64 (q * 2)) rfl (by kernel_rfl) (by kernel_rfl) (by kernel_rfl) (fun _ _ _ h => h) (Or.inl ⟨by rfl, by intro w hSw; clear hSw; go_simp; (try with_reducible rfl)⟩) trivial ?_
            try simp only [Act.put, List.setIfInBounds_toArray, List.set_cons_zero, List.set_cons_succ]
            refine wpAnyH_take (i := 7) (oi := { dst := some 27, op := _, type := _, pos := _, after := _, guard := _ }) (v := .int .i64 (1 + q * 2)) rfl (by kernel_rfl) (by kernel_rfl) (by kernel_rfl) (fun _ _ _ h => h) (Or.inl ⟨by rfl, by intro w hSw; clear hSw; go_simp; (try with_reducible rfl)⟩) trivial ?_
            try simp only [Act.put, List.setIfInBounds_toArray, List.set_cons_zero, List.set_cons_succ]
            refine wpAnyH_take (i := 8) (oi := { dst := some 28, op := _, type := _, pos := _, after := _, guard := _ }) (v := .pointer (some ⟨B, 0, none⟩)) rfl (by kernel_rfl) (by kernel_rfl) (by kernel_rfl) (fun _ _ _ h => h) (Or.inl ⟨by rfl, by intro w hSw; clear hSw; go_simp; (try with_reducible rfl)⟩) trivial ?_
            try simp only [Act.put, List.setIfInBounds_toArray, List.set_cons_zero, List.set_cons_succ]
            refine wpAnyH_take (i := 11) (oi := { dst := some 31, op := _, type := _, pos := _, after := _, guard := _ }) (v := .pointer (some ⟨B, 0, none⟩)) rfl (by kernel_rfl) (by kernel_rfl) (by kernel_rfl) (fun _ _ _ h => h) (Or.inl ⟨by rfl, by intro w hSw; clear hSw; go_simp; (try with_reducible rfl)⟩) trivial ?_
            try simp only [Act.put, List.setIfInBounds_toArray, List.set_cons_zero, List.set_cons_succ]
            refine wpAnyH_take (i := 16) (oi := { dst := some 36, op := _, type := _, pos := _, after := _, guard := _ }) (v := .pointer (some ⟨b3, 0, none⟩)) rfl (by kernel_rfl) (by kernel_rfl) (by kernel_rfl) (fun _ _ _ h => h) (Or.inl ⟨by rfl, by intro w hSw; clear hSw; go_simp; (try with_reducible rfl)⟩) trivial ?_
            try simp only [Act.put, List.setIfInBounds_toArray, List.set_cons_zero, List.set_cons_succ]
            refine wpAnyH_take (i := 17) (oi := { dst := some 37, op := _, type := _, pos := _, after := _, guard := _ }) (v := .pointer (some ⟨b3, r * 4, none⟩)) rfl (by kernel_rfl) (by kernel_rfl) (by kernel_rfl) (fun _ _ _ h => h) (Or.inl ⟨by rfl, by intro w hSw; clear hSw; go_simp; (try with_reducible rfl)⟩) trivial ?_
            try simp only [Act.put, List.setIfInBounds_toArray, List.set_cons_zero, List.set_cons_succ]
            refine wpAnyH_ready (rs := [9]) (by kernel_rfl) (by simp) ?_
            refine AllReadyH.cons rfl (fun K hK => ?_) AllReadyH.nil
            go_simp
            refine (pick_any _ B (m1) 2 hs.1.1 (by omega) (by omega) (by omega)).mono ?_
            rintro e y1 ⟨ka, hka, rfl, hc2, ht2⟩
            have hs := hs.call hc2 ht2
            clear hc2 ht2
            have hka0 : (0 : Int) ≤ (ka : Int) := by omega
            go_wp2_with fail
            refine hK.out _ _ trivial (fun hHeld => ?_)
            clear hK K
            try simp only [Act.put, List.setIfInBounds_toArray, List.set_cons_zero, List.set_cons_succ]
            have hwa : IntKind.i64.wrap (1 + q * 2 + (ka : Int)) = 1 + q * 2 + (ka : Int) := IntWalk.i64_in _ (by omega)
            refine wpAnyH_take (i := 10) (oi := { dst := some 30, op := _, type := _, pos := _, after := _, guard := _ }) (v := .int .i64 (1 + q * 2 + (ka : Int))) rfl (by kernel_rfl) (by kernel_rfl) (by kernel_rfl) (fun _ _ _ h => h) (Or.inl ⟨by rfl, by intro w hSw; clear hSw; go_simp; (try with_reducible rfl)⟩) trivial ?_
            try simp only [Act.put, List.setIfInBounds_toArray, List.set_cons_zero, List.set_cons_succ]
            refine wpAnyH_ready (rs := [12]) (by kernel_rfl) (by simp) ?_
            refine AllReadyH.cons rfl (fun K hK => ?_) AllReadyH.nil
            go_simp
            refine (pick_any _ B (m1 + 2) 9 hs.1.1 (by omega) (by omega) (by omega)).mono ?_
            rintro e y2 ⟨kb, hkb, rfl, hc2, ht2⟩
            have hs := hs.call hc2 ht2
            clear hc2 ht2
            have hkb0 : (0 : Int) ≤ (kb : Int) := by omega
            go_wp2_with fail
            refine hK.out _ _ trivial (fun hHeld => ?_)
            clear hK K
            try simp only [Act.put, List.setIfInBounds_toArray, List.set_cons_zero, List.set_cons_succ]
            have hwb : IntKind.i64.wrap (4 * (kb : Int)) = 4 * (kb : Int) := IntWalk.i64_in _ (by omega)
            obtain ⟨qb, hqb, hqb0, hqb1⟩ : ∃ qb : Int, (4 * (kb : Int)).tdiv 8 = qb ∧ 0 ≤ qb ∧ qb ≤ 4 := ⟨_, rfl, by rw [Int.tdiv_eq_ediv_of_nonneg (by omega)]; omega, by rw [Int.tdiv_eq_ediv_of_nonneg (by omega)]; omega⟩
            have hqw : IntKind.i64.wrap qb = qb := IntWalk.i64_in _ (by omega)
            refine wpAnyH_take (i := 13) (oi := { dst := some 33, op := _, type := _, pos := _, after := _, guard := _ }) (v := .int .i64 (4 * (kb : Int))) rfl (by kernel_rfl) (by kernel_rfl) (by kernel_rfl) (fun _ _ _ h => h) (Or.inl ⟨by rfl, by intro w hSw; clear hSw; go_simp; (try with_reducible rfl)⟩) trivial ?_
            try simp only [Act.put, List.setIfInBounds_toArray, List.set_cons_zero, List.set_cons_succ]
            refine wpAnyH_take (i := 14) (oi := { dst := some 34, op := _, type := _, pos := _, after := _, guard := _ }) (v := .int .i64 qb) rfl (by kernel_rfl) (by kernel_rfl) (by kernel_rfl) (fun _ _ _ h => h) (Or.inl ⟨by rfl, by intro w hSw; clear hSw; go_simp; (try with_reducible rfl)⟩) trivial ?_
            try simp only [Act.put, List.setIfInBounds_toArray, List.set_cons_zero, List.set_cons_succ]
            have hwc : IntKind.i64.wrap (1 + q * 2 + (ka : Int) + qb) = 1 + q * 2 + (ka : Int) + qb := IntWalk.i64_in _ (by omega)
            refine wpAnyH_take (i := 15) (oi := { dst := some 35, op := _, type := _, pos := _, after := _, guard := _ }) (v := .int .i64 (1 + q * 2 + (ka : Int) + qb)) rfl (by kernel_rfl) (by kernel_rfl) (by kernel_rfl) (fun _ _ _ h => h) (Or.inl ⟨by rfl, by intro w hSw; clear hSw; go_simp; (try with_reducible rfl)⟩) trivial ?_
            try simp only [Act.put, List.setIfInBounds_toArray, List.set_cons_zero, List.set_cons_succ]
            refine wpAnyH_take (i := 18) (oi := { dst := some 38, op := _, type := _, pos := _, after := _, guard := _ }) (v := .pointer (some ⟨b3, r * 4 + c, none⟩)) rfl (by kernel_rfl) (by kernel_rfl) (by kernel_rfl) (fun _ _ _ h => h) (Or.inl ⟨by rfl, by intro w hSw; clear hSw; go_simp; (try with_reducible rfl)⟩) trivial ?_
            try simp only [Act.put, List.setIfInBounds_toArray, List.set_cons_zero, List.set_cons_succ]
            refine wpAnyH_ready (rs := [19]) (by kernel_rfl) (by simp) ?_
            refine AllReadyH.cons rfl (fun K hK => ?_) AllReadyH.nil
            have c3 := hs.2.2.1.cell (i := r * 4 + c) (by omega)
            have f3 := hs.2.2.1.free (r * 4 + c)
            go_simp
            clear c3 f3
            refine hK.out _ _ trivial (fun hHeld => ?_)
            clear hK K
            try simp only [Act.put, List.setIfInBounds_toArray, List.set_cons_zero, List.set_cons_succ]
            refine wpAnyH_done (by kernel_rfl) ?_ _
            have HS := Lib.hid (hs.set (i := r * 4 + c) (by omega) (1 + q * 2 + (ka : Int) + qb))
            clear hs hHeld
            go_wp2_with fail
            go_roundg h
            case rel => exact ⟨c + 1, m1 + 2 + 2, _, by omega, by go_num, by omega, HS⟩
            case measure => omega
end Go.Proofs.Ytlboglcpbbnbcab
