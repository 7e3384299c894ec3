/-
  The contracts of the reference's drawing of a board with symmetries (spec.l1Cur.formed3): some board comes out, and nothing but the drawer's own block turns.
-/
import Derived.Test.YtknjmkapabjolaaDrawBoard
namespace Go.Proofs.Ytknjmkapabjolaa
open Go.RowKit Plain
attribute [local go_sem] store_new
set_option linter.unusedSimpArgs false

def g16 (t : Int) : Nat → Int := fun j => [t, 1, 2, t, 2, 0, 0, 1, 1, 0, 0, 2, t, 2, 1, t].getD j 0
theorem mk_g16 (t : Int) : (#[.int .i64 t, .int .i64 1, .int .i64 2, .int .i64 t, .int .i64 2, .int .i64 0, .int .i64 0, .int .i64 1, .int .i64 1, .int .i64 0, .int .i64 0, .int .i64 2, .int .i64 t, .int .i64 2, .int .i64 1, .int .i64 t] : Array Value) = mk 16 (g16 t) := rfl
set_option maxHeartbeats 8000000 in
set_option maxRecDepth 20000 in
theorem formed3_any (w : World) (B m : Nat) (hc : Cur w B m) (hm : m ≤ 999980000) :
    Calls Try.prog 86 #[.pointer (some ⟨B, 0, none⟩)] w fun e w' => ∃ f, e = .returned (.agg (mk 16 f)) ∧ Cur w' B (m + 300) ∧ Turned B w w' := by
  have z16 := zero16
  have D0 := Lib.hid ((Dr.start hc).alloc (.cells (mk 16 fun _ => 0) 29))
  have K2 := Blk.new w 16 (fun _ => 0) 29
  have hB := hc.lt
  clear hc
  go_enter Try.func86, Try.ntmps86
  go_wp2_with fail
  refine (board_any _ B m D0.out.1 (by omega)).mono ?_
  rintro e w2 ⟨f0, rfl, hc2, ht2⟩
  have K2 := K2.turned ht2 (by omega)
  have h3 : w.heap.size < w2.heap.size := K2.lt
  have K2 := K2.alloc (.cells (mk 16 f0) 29)
  have K3 := Blk.new w2 16 f0 29
  have HS0 : Hid (BdSt w B (m + 200) w2.heap.size (w2.alloc (.cells (mk 16 f0) 29))) := ⟨(D0.out.call hc2 ht2).alloc _, K2, ⟨_, K3⟩, h3⟩
  clear hc2 ht2 K2 K3 D0
  go_wp2_with fail
  clear z16
  generalize w2.alloc (.cells (mk 16 f0) 29) = w3 at *
  generalize w2.heap.size = b3 at *
  have hs := HS0.out
  clear HS0
  refine (one_any _ B (m + 200) 2 hs.1.1 (by omega) (by omega) (by omega)).mono ?_
  rintro e w4 ⟨b, rfl, hc2, ht2⟩
  have hs := hs.call hc2 ht2
  clear hc2 ht2
  cases b with
  | true =>
    obtain ⟨h1, h2, ⟨f, h3⟩, h4⟩ := hs
    have HD := Lib.hid h1
    clear h1
    go_wp2_with (first | ((with_reducible show wpList _ _ _ (Oper.mk _ (Op.load 29 _) _ _ _ _ :: _) _ _); refine loadB (h3) rfl rfl rfl ?_) | ((with_reducible show wpList _ _ _ (Oper.mk _ (Op.store 29 _ _) _ _ _ _ :: _) _ _); refine storeB (h2) rfl rfl rfl rfl ?_))
    try simp only [Exit.inBlock, Exit.then]
    exact retcB (h2.row 16 _) rfl rfl rfl ⟨_, rfl, (HD.out.row (Nat.le_refl _) _).1.more (by omega), (HD.out.row (Nat.le_refl _) _).2.1⟩
  | false =>
  have HS0 := Lib.hid hs
  clear hs
  go_wp2_with fail
  go_loopg [4] 4 (fun g s4 wr => ∃ r m' : Nat, r + g = 4 ∧ s4 = .int .i64 r ∧ m' ≤ m + 202 + r * 4 * 4 ∧ BdSt w B m' b3 wr)
  case atStart => exact ⟨0, _, by omega, rfl, by omega, HS0.out⟩
  case round =>
    obtain ⟨r, m1, hrg, rfl, hm1, hs⟩ := hrel
    clear HS0
    cases gk with
    | zero =>
      have hr : ¬ ((r : Int) < 4) := by omega
      obtain rfl : r = 4 := by omega
      clear hrg hr
      have HS := Lib.hid hs
      go_wp2_with fail
      have hs := HS.out
      clear HS
      refine (pick_any _ B m1 4 hs.1.1 (by omega) (by omega) (by omega)).mono ?_
      rintro e w5 ⟨k, hk, rfl, hc2, ht2⟩
      have hs := hs.call hc2 ht2
      clear hc2 ht2
      have hk0 : (0 : Int) ≤ (k : Int) := by omega
      rcases (by omega : k = 0 ∨ k = 1 ∨ 2 ≤ k) with hk1 | hk1 | hk1
      · have q0 : ((k : Int) == 0) = true := by simp; omega
        clear hk1
        have HS := Lib.hid hs
        clear hs
        go_wp2_with fail
        go_loopg [6] 4 (fun g s6 wr => ∃ r : Nat, r + g = 4 ∧ s6 = .int .i64 r ∧ BdSt w B (m1 + 2) b3 wr)
        case atStart => exact ⟨0, by omega, rfl, HS.out⟩
        case round =>
          obtain ⟨r, hrg, rfl, hs⟩ := hrel
          clear HS
          cases gk with
          | zero =>
            have hr : ¬ ((r : Int) < 4) := by omega
            obtain rfl : r = 4 := by omega
            clear hrg hr
            obtain ⟨h1, h2, ⟨f, h3⟩, h4⟩ := hs
            have HD := Lib.hid h1
            clear h1
            go_wp2_with (first | ((with_reducible show wpList _ _ _ (Oper.mk _ (Op.load 29 _) _ _ _ _ :: _) _ _); refine loadB (h3) rfl rfl rfl ?_) | ((with_reducible show wpList _ _ _ (Oper.mk _ (Op.store 29 _ _) _ _ _ _ :: _) _ _); refine storeB (h2) rfl rfl rfl rfl ?_))
            try simp only [Exit.inBlock, Exit.then]
            exact retcB (h2.row 16 _) rfl rfl rfl ⟨_, rfl, (HD.out.row (Nat.le_refl _) _).1.more (by omega), (HD.out.row (Nat.le_refl _) _).2.1⟩
          | succ g =>
            have hr4 : (r : Int) < 4 := by omega
            have hr5 : r < 4 := by omega
            have hr0 : (0 : Int) ≤ (r : Int) := by omega
            obtain ⟨y1, c1⟩ := hs.cell (i := r * 4) (by omega)
            obtain ⟨y4, c4⟩ := hs.cell (i := r * 4 + 3) (by omega)
            obtain ⟨y5, c5⟩ := hs.cell (i := r * 4 + 1) (by omega)
            obtain ⟨y6, c6⟩ := hs.cell (i := r * 4 + 2) (by omega)
            have f4 := hs.free (r * 4 + 3)
            have f6 := hs.free (r * 4 + 2)
            have HS := Lib.hid hs
            clear hs
            go_wp2_with fail
            go_region
            all_goals
              go_wp2_with fail
              go_region
              all_goals
                go_wp2_with fail
                go_roundg g
                case rel => exact ⟨r + 1, by omega, by go_num, (HS.out.drew.set (i := r * 4 + 3) (by omega) _).drew.set (i := r * 4 + 2) (by omega) _⟩
                case measure => omega
      · have q0 : ((k : Int) == 0) = false := by simp; omega
        have q1 : ((k : Int) == 1) = true := by simp; omega
        clear hk1
        have HS := Lib.hid hs
        clear hs
        go_wp2_with fail
        have hs := HS.out
        clear HS
        refine (pick_any _ B (m1 + 2) 3 hs.1.1 (by omega) (by omega) (by omega)).mono ?_
        rintro e w7 ⟨t, ht, rfl, hc2, ht2⟩
        have hs := hs.call hc2 ht2
        clear hc2 ht2
        have mq := mk_g16 (t : Int)
        obtain ⟨h1, h2, ⟨f, h3⟩, h4⟩ := hs
        have HD := Lib.hid h1
        clear h1
        have k3b := fun g => h3.row 16 g
        have k2b := fun g => h2.rowOther b3 (mk 16 g) (by omega)
        have HDb := Lib.hid (fun g => HD.out.row (b := b3) (by omega) (mk 16 g))
        go_wp2_with (first | ((with_reducible show wpList _ _ _ (Oper.mk _ (Op.store 23 _ _) _ _ _ _ :: _) _ _); refine storeG (h3) rfl rfl rfl rfl ?_) | ((with_reducible show wpList _ _ _ (Oper.mk _ (Op.load 29 _) _ _ _ _ :: _) _ _); refine loadB (k3b _) rfl rfl rfl ?_) | ((with_reducible show wpList _ _ _ (Oper.mk _ (Op.store 29 _ _) _ _ _ _ :: _) _ _); refine storeB (k2b _) rfl rfl rfl rfl ?_))
        try simp only [Exit.inBlock, Exit.then]
        exact retcB ((k2b _).row 16 _) rfl rfl rfl ⟨_, rfl, ((HDb.out _).row (Nat.le_refl _) _).1.more (by omega), ((HDb.out _).row (Nat.le_refl _) _).2.1⟩
      · have q0 : ((k : Int) == 0) = false := by simp; omega
        have q1 : ((k : Int) == 1) = false := by simp; omega
        clear hk1
        obtain ⟨h1, h2, ⟨f, h3⟩, h4⟩ := hs
        have HD := Lib.hid h1
        clear h1
        go_wp2_with (first | ((with_reducible show wpList _ _ _ (Oper.mk _ (Op.load 29 _) _ _ _ _ :: _) _ _); refine loadB (h3) rfl rfl rfl ?_) | ((with_reducible show wpList _ _ _ (Oper.mk _ (Op.store 29 _ _) _ _ _ _ :: _) _ _); refine storeB (h2) rfl rfl rfl rfl ?_))
        try simp only [Exit.inBlock, Exit.then]
        exact retcB (h2.row 16 _) rfl rfl rfl ⟨_, rfl, (HD.out.row (Nat.le_refl _) _).1.more (by omega), (HD.out.row (Nat.le_refl _) _).2.1⟩
    | succ g =>
      have hr4 : (r : Int) < 4 := by omega
      have hr5 : r < 4 := by omega
      have HS := Lib.hid hs
      clear hs
      go_wp2_with fail
      go_loopg [5] 4 (fun h s5 wx => ∃ c m' : Nat, c + h = 4 ∧ s5 = .int .i64 c ∧ m' ≤ m + 202 + (r * 4 + c) * 4 ∧ BdSt w B m' b3 wx)
      case atStart => exact ⟨0, m1, by omega, rfl, by omega, HS.out⟩
      case round =>
        obtain ⟨c, m2, hch, rfl, hm2, hs⟩ := hrel
        clear HS hm1
        cases gk with
        | zero =>
          have hcc : ¬ ((c : Int) < 4) := by omega
          obtain rfl : c = 4 := by omega
          have HS := Lib.hid hs
          clear hs hch hcc
          go_wp2_with fail
          go_roundg g
          case rel => exact ⟨r + 1, m2, by omega, by go_num, by omega, HS.out⟩
          case measure => omega
        | succ h =>
          have hcc : (c : Int) < 4 := by omega
          have hc5 : c < 4 := by omega
          have hr0 : (0 : Int) ≤ (r : Int) := by omega
          have hc0 : (0 : Int) ≤ (c : Int) := by omega
          obtain ⟨kr, hkr⟩ : ∃ k, r + k = 3 := ⟨3 - r, by omega⟩
          obtain ⟨kc, hkc⟩ : ∃ k, c + k = 3 := ⟨3 - c, by omega⟩
          have er : IntKind.i64.wrap (3 - (r : Int)) = (kr : Int) := by
            rw [show (3 : Int) - (r : Int) = (kr : Int) by omega]
            exact IntWalk.i64_in _ (by omega)
          have ec : IntKind.i64.wrap (3 - (c : Int)) = (kc : Int) := by
            rw [show (3 : Int) - (c : Int) = (kc : Int) by omega]
            exact IntWalk.i64_in _ (by omega)
          have kr0 : (0 : Int) ≤ (kr : Int) := by omega
          have kr4 : (kr : Int) < 4 := by omega
          have kc0 : (0 : Int) ≤ (kc : Int) := by omega
          have kc4 : (kc : Int) < 4 := by omega
          have HS := Lib.hid hs
          clear hs
          go_wp2_with fail
          have hs := HS.out
          clear HS
          refine (pick_any _ B m2 6 hs.1.1 (by omega) (by omega) (by omega)).mono ?_
          rintro e wp ⟨k, hk, rfl, hc2, ht2⟩
          have hs := hs.call hc2 ht2
          clear hc2 ht2
          have hk0 : (0 : Int) ≤ (k : Int) := by omega
          rcases (by omega : k = 0 ∨ k = 1 ∨ k = 2 ∨ 3 ≤ k) with hk1 | hk1 | hk1 | hk1
          · have q0 : ((k : Int) == 0) = true := by simp; omega
            clear hk1
            obtain ⟨y1, c1⟩ := hs.cell (i := kr * 4 + kc) (by omega)
            obtain ⟨y4, c4⟩ := hs.cell (i := r * 4 + c) (by omega)
            have f4 := hs.free (r * 4 + c)
            have HS := Lib.hid hs
            clear hs
            go_wp2_with fail
            go_region
            all_goals
              go_wp2_with fail
              go_roundg h
              case rel => exact ⟨c + 1, _, by omega, by go_num, by omega, HS.out.drew.set (by omega) _⟩
              case measure => omega
          · have q0 : ((k : Int) == 0) = false := by simp; omega
            have q1 : ((k : Int) == 1) = true := by simp; omega
            clear hk1
            obtain ⟨y1, c1⟩ := hs.cell (i := c * 4 + r) (by omega)
            obtain ⟨y4, c4⟩ := hs.cell (i := r * 4 + c) (by omega)
            have f4 := hs.free (r * 4 + c)
            have HS := Lib.hid hs
            clear hs
            go_wp2_with fail
            go_region
            all_goals
              go_wp2_with fail
              go_roundg h
              case rel => exact ⟨c + 1, _, by omega, by go_num, by omega, HS.out.drew.set (by omega) _⟩
              case measure => omega
          · have q0 : ((k : Int) == 0) = false := by simp; omega
            have q1 : ((k : Int) == 1) = false := by simp; omega
            have q2 : ((k : Int) == 2) = true := by simp; omega
            clear hk1
            obtain ⟨y1, c1⟩ := hs.cell (i := r * 4 + kc) (by omega)
            obtain ⟨y4, c4⟩ := hs.cell (i := r * 4 + c) (by omega)
            have f4 := hs.free (r * 4 + c)
            have HS := Lib.hid hs
            clear hs
            go_wp2_with fail
            go_region
            all_goals
              go_wp2_with fail
              go_roundg h
              case rel => exact ⟨c + 1, _, by omega, by go_num, by omega, HS.out.drew.set (by omega) _⟩
              case measure => omega
          · have q0 : ((k : Int) == 0) = false := by simp; omega
            have q1 : ((k : Int) == 1) = false := by simp; omega
            have q2 : ((k : Int) == 2) = false := by simp; omega
            clear hk1
            have HS := Lib.hid hs
            clear hs
            go_wp2_with fail
            have hs := HS.out.drew
            clear HS
            refine wp_region_held_drew (S := fun _ => True) (by kernel_rfl) trivial (fun hHeld => ?_)
            generalize wp.drew = x0 at *
            refine wpAnyH_take (i := 0) (oi := { dst := some 23, op := _, type := _, pos := _, after := _, guard := _ }) (v := ?v1) rfl (by kernel_rfl) (by kernel_rfl) (by kernel_rfl) (fun _ _ _ h => h) (Or.inl ⟨by rfl, ?hy1⟩) trivial ?rest1
            case hy1 => (intro w hSw; clear hSw; go_simp; (try with_reducible rfl))
            try simp only [Act.put, List.setIfInBounds_toArray, List.set_cons_zero, List.set_cons_succ]
            refine wpAnyH_take (i := 1) (oi := { dst := some 24, op := _, type := _, pos := _, after := _, guard := _ }) (v := ?v2) rfl (by kernel_rfl) (by kernel_rfl) (by kernel_rfl) (fun _ _ _ h => h) (Or.inl ⟨by rfl, ?hy2⟩) trivial ?rest2
            case hy2 => (intro w hSw; clear hSw; go_simp; (try with_reducible rfl))
            try simp only [Act.put, List.setIfInBounds_toArray, List.set_cons_zero, List.set_cons_succ]
            refine wpAnyH_take (i := 2) (oi := { dst := some 25, op := _, type := _, pos := _, after := _, guard := _ }) (v := ?v3) rfl (by kernel_rfl) (by kernel_rfl) (by kernel_rfl) (fun _ _ _ h => h) (Or.inl ⟨by rfl, ?hy3⟩) trivial ?rest3
            case hy3 => (intro w hSw; clear hSw; go_simp; (try with_reducible rfl))
            try simp only [Act.put, List.setIfInBounds_toArray, List.set_cons_zero, List.set_cons_succ]
            refine wpAnyH_take (i := 4) (oi := { dst := some 27, op := _, type := _, pos := _, after := _, guard := _ }) (v := ?v4) rfl (by kernel_rfl) (by kernel_rfl) (by kernel_rfl) (fun _ _ _ h => h) (Or.inl ⟨by rfl, ?hy4⟩) trivial ?rest4
            case hy4 => (intro w hSw; clear hSw; go_simp; (try with_reducible rfl))
            try simp only [Act.put, List.setIfInBounds_toArray, List.set_cons_zero, List.set_cons_succ]
            refine wpAnyH_take (i := 5) (oi := { dst := some 28, op := _, type := _, pos := _, after := _, guard := _ }) (v := ?v5) rfl (by kernel_rfl) (by kernel_rfl) (by kernel_rfl) (fun _ _ _ h => h) (Or.inl ⟨by rfl, ?hy5⟩) trivial ?rest5
            case hy5 => (intro w hSw; clear hSw; go_simp; (try with_reducible rfl))
            try simp only [Act.put, List.setIfInBounds_toArray, List.set_cons_zero, List.set_cons_succ]
            refine wpAnyH_ready (rs := [3]) (by kernel_rfl) (by simp) ?_
            refine AllReadyH.cons rfl (fun K hK => ?_) AllReadyH.nil
            go_simp
            refine (pick_any _ B (m2 + 2) 2 hs.1.1 (by omega) (by omega) (by omega)).mono ?_
            rintro e x1 ⟨k1, hk1, rfl, hc2, ht2⟩
            have hs := hs.call hc2 ht2
            clear hc2 ht2
            go_wp2_with fail
            refine hK.out _ _ trivial (fun hHeld => ?_)
            clear hK K
            try simp only [Act.put, List.setIfInBounds_toArray, List.set_cons_zero, List.set_cons_succ]
            refine wpAnyH_take (i := 6) (oi := { dst := some 29, op := _, type := _, pos := _, after := _, guard := _ }) (v := ?v6) rfl (by kernel_rfl) (by kernel_rfl) (by kernel_rfl) (fun _ _ _ h => h) (Or.inl ⟨by rfl, ?hy6⟩) trivial ?rest6
            case hy6 => (intro w hSw; clear hSw; go_simp; (try with_reducible rfl))
            try simp only [Act.put, List.setIfInBounds_toArray, List.set_cons_zero, List.set_cons_succ]
            obtain ⟨y4, c4⟩ := hs.cell (i := r * 4 + c) (by omega)
            have f4 := hs.free (r * 4 + c)
            refine wpAnyH_ready (rs := [7]) (by kernel_rfl) (by simp) ?_
            refine AllReadyH.cons rfl (fun K hK => ?_) AllReadyH.nil
            go_simp
            refine hK.out _ _ trivial (fun hHeld => ?_)
            clear hK K c4 f4
            refine wpAnyH_done (by kernel_rfl) ?_ _
            have HS := Lib.hid hs
            clear hs
            go_wp2_with fail
            go_roundg h
            case rel => exact ⟨c + 1, _, by omega, by go_num, by omega, HS.out.set (by omega) _⟩
            case measure => omega
end Go.Proofs.Ytknjmkapabjolaa
