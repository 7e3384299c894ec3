/-
  The contracts of l7Ordered and SnakesOf in the reference, for every board.
-/
import Derived.Test.YtmcmpedmgibmkabSpecSnake
import Derived.Test.YtmcmpedmgibmkabSnakeOrd
import Derived.Test.YtmcmpedmgibmkabRowsKit
import Derived.Deep.RegionHeld3
namespace Go.Proofs.Ytmcmpedmgibmkab
open Go.RowKit Plain
attribute [local go_sem] store_new
set_option linter.unusedVariables false
set_option linter.unusedSimpArgs false
theorem execA7 {o : Oper} {ev : Operand → Value} {w : World} {b n off : Nat} {f : Nat → Int} {x : Operand} (hg : CAt w b n f) (hm : off + 2 ≤ n) (ho : o.op = .load 22 x) (hx : ev x = .pointer (some ⟨b, off, none⟩)) :
    (execOp ev o).run Try.prog w = .ok (.value (.agg (mk 2 (fun i => f (off + i))))) w := exec_load_at _ x ho hx hg hm Try.underlying22 rfl sizeC
theorem at_place (f : Nat → Int) (k i : Nat) (hk : k < 8) (hi : i < 16) (w : World) :
    Calls Try.prog 49 #[.agg (mk 16 f), .agg (mk 2 fun c => spF k (i * 2 + c))] w fun e w' => e = .returned (.int .i64 (f (plP k i))) ∧ Below w.heap.size w w' := by
  have h := plP_lt hk hi
  have hh := l2At_any f (fun c => spF k (i * 2 + c)) (plP k i / 4) (plP k i % 4) w (sp_row k i) (sp_col k i) (by omega) (by omega)
  rw [show plP k i / 4 * 4 + plP k i % 4 = plP k i by omega] at hh
  exact hh
set_option maxHeartbeats 4000000 in
set_option maxRecDepth 20000 in
theorem l7Ordered_any (f : Nat → Int) (k : Nat) (w : World) (hk : k < 8) :
    Calls Try.prog 33 #[.agg (mk 16 f), .int .i64 (k : Int)] w fun e w' => e = .returned (.bool (ordF f k)) ∧ Below w.heap.size w w' := by
  have z32 := zero32
  have HAT := Lib.hid (fun i hi w => at_place f k i hk hi w)
  have HSN := Lib.hid (fun w => l7Snake_any k w hk)
  have HOR : Hid (ordG (fun i => f (plP k i)) 15 = ordF f k) := rfl
  have HN := Lib.hid (fun (m : Nat) (h1 : m < 15) (h2 : f (plP k m) < f (plP k (m + 1))) => (ordG_no (h := fun i => f (plP k i)) h1 h2))
  have HY := Lib.hid (fun (m : Nat) (h1 : ordG (fun i => f (plP k i)) m = true) (h2 : f (plP k (m + 1)) ≤ f (plP k m)) => ordG_yes (h := fun i => f (plP k i)) h1 h2)
  clear hk
  have H0 : Hid (ordG (fun i => f (plP k i)) 0 = true) := rfl
  generalize hG : (fun i => f (plP k i)) = G at *
  have HGV : Hid (∀ i, f (plP k i) = G i) := fun i => by rw [← hG]
  clear hG
  have K2 := Blk.new w 16 f 35
  have HB := Lib.hid ((Below.refl w.heap.size w).alloc (Nat.le_refl _) (.cells (mk 16 f) 35))
  go_enter Try.func33, Try.ntmps33
  go_wp2_with fail
  refine (HSN.out _).mono ?_
  rintro e w1 ⟨rfl, hb⟩
  have K2 := (K2.below hb K2.lt).alloc (.cells (mk 32 (spF k)) 23)
  have HB := HB.out.trans (hb.mono HB.out.size)
  have HB : Hid (Below w.heap.size w (w1.alloc (.cells (mk 32 (spF k)) 23))) := HB.alloc HB.size _
  have K5 := Blk.new w1 32 (spF k) 23
  clear hb HSN
  go_wp2_with fail
  generalize w1.alloc (.cells (mk 32 (spF k)) 23) = w2 at *
  generalize w1.heap.size = b5 at *
  go_loopg [6] 15 (fun g s6 wr => ∃ m : Nat, m + g = 15 ∧ s6 = .int .i64 ((m + 1 : Nat) : Int) ∧ Hid (ordG G m = true) ∧ Blk wr w.heap.size 16 f 35 ∧ Blk wr b5 32 (spF k) 23 ∧ Hid (Below w.heap.size w wr))
  case atStart => exact ⟨0, by omega, rfl, H0, K2, K5, HB⟩
  case round =>
    clear K2 K5 HB
    obtain ⟨m, hmg, rfl, HO, K2, K5, HB⟩ := hrel
    obtain ⟨U, hU⟩ : ∃ U, U = m + 1 := ⟨_, rfl⟩
    rw [← hU]
    cases gk with
    | zero =>
      have hd : ¬ ((U : Int) < 16) := by omega
      obtain rfl : m = 15 := by omega
      clear hmg hU
      go_wp2_with fail
      go_ret
      exact ⟨by rw [← HOR.out, HO.out]; rfl, HB.out⟩
    | succ g =>
      have hd : (U : Int) < 16 := by omega
      have hU0 : (0 : Int) ≤ (U : Int) := by omega
      have hU16 : U < 16 := by omega
      have hm16 : m < 16 := by omega
      have hm0 : (0 : Int) ≤ (m : Int) := by omega
      have hm15 : (m : Int) < 16 := by omega
      have hU1 : (U : Int) - 1 = (m : Int) := by omega
      have hmw : IntKind.i64.wrap (m : Int) = (m : Int) := IntWalk.i64_in _ (by omega)
      by_cases hq : f (plP k m) < f (plP k U)
      · have HE : Hid (ordF f k = false) := by show _ = _; rw [← HOR.out]; exact HN.out m (by omega) (by rw [← hU]; exact hq)
        have hqd : decide (f (plP k m) < f (plP k U)) = true := decide_eq_true hq
        clear hq hU
        go_wp2_with fail
        refine wp_region_held_drew (S := fun W => Blk W w.heap.size 16 f 35 ∧ CAt W b5 32 (spF k)) (by kernel_rfl) (⟨K2.drew, K5.drew.at⟩) (fun hHeld => ?_)
        have K2 : Blk wr.drew w.heap.size 16 f 35 := K2.drew
        have K5 : Blk wr.drew b5 32 (spF k) 23 := K5.drew
        have HB : Hid (Below w.heap.size w wr.drew) := HB.out.drew
        generalize wr.drew = x0 at *
        refine wpAnyH_take (i := 0) (oi := { dst := some 13, op := _, type := _, pos := _, after := _, guard := _ }) (v := .agg (mk 16 f)) rfl (by kernel_rfl) (by kernel_rfl) (by kernel_rfl) (fun _ _ _ h => h) (Or.inl ⟨by rfl, fun _ q => execB q.1 rfl rfl⟩) (by assumption) ?_
        try simp only [Act.put, List.setIfInBounds_toArray, List.set_cons_zero, List.set_cons_succ]
        refine wpAnyH_take (i := 1) (oi := { dst := some 14, op := _, type := _, pos := _, after := _, guard := _ }) (v := .int .i64 (U : Int)) rfl (by kernel_rfl) (by kernel_rfl) (by kernel_rfl) (fun _ _ _ h => h) (Or.inl ⟨by rfl, by intro w hSw; clear hSw; go_simp; (try with_reducible rfl)⟩) (by assumption) ?_
        try simp only [Act.put, List.setIfInBounds_toArray, List.set_cons_zero, List.set_cons_succ]
        refine wpAnyH_take (i := 2) (oi := { dst := some 15, op := _, type := _, pos := _, after := _, guard := _ }) (v := .pointer (some ⟨b5, U * 2, none⟩)) rfl (by kernel_rfl) (by kernel_rfl) (by kernel_rfl) (fun _ _ _ h => h) (Or.inl ⟨by rfl, by intro w hSw; clear hSw; go_simp; (try with_reducible rfl)⟩) (by assumption) ?_
        try simp only [Act.put, List.setIfInBounds_toArray, List.set_cons_zero, List.set_cons_succ]
        refine wpAnyH_take (i := 3) (oi := { dst := some 16, op := _, type := _, pos := _, after := _, guard := _ }) (v := .agg (mk 2 fun c => spF k (U * 2 + c))) rfl (by kernel_rfl) (by kernel_rfl) (by kernel_rfl) (fun _ _ _ h => h) (Or.inl ⟨by rfl, fun _ q => execA7 q.2 (by omega) rfl rfl⟩) (by assumption) ?_
        try simp only [Act.put, List.setIfInBounds_toArray, List.set_cons_zero, List.set_cons_succ]
        refine wpAnyH_take (i := 5) (oi := { dst := some 18, op := _, type := _, pos := _, after := _, guard := _ }) (v := .agg (mk 16 f)) rfl (by kernel_rfl) (by kernel_rfl) (by kernel_rfl) (fun _ _ _ h => h) (Or.inl ⟨by rfl, fun _ q => execB q.1 rfl rfl⟩) (by assumption) ?_
        try simp only [Act.put, List.setIfInBounds_toArray, List.set_cons_zero, List.set_cons_succ]
        refine wpAnyH_take (i := 6) (oi := { dst := some 19, op := _, type := _, pos := _, after := _, guard := _ }) (v := .int .i64 (U : Int)) rfl (by kernel_rfl) (by kernel_rfl) (by kernel_rfl) (fun _ _ _ h => h) (Or.inl ⟨by rfl, by intro w hSw; clear hSw; go_simp; (try with_reducible rfl)⟩) (by assumption) ?_
        try simp only [Act.put, List.setIfInBounds_toArray, List.set_cons_zero, List.set_cons_succ]
        refine wpAnyH_take (i := 7) (oi := { dst := some 20, op := _, type := _, pos := _, after := _, guard := _ }) (v := .int .i64 (m : Int)) rfl (by kernel_rfl) (by kernel_rfl) (by kernel_rfl) (fun _ _ _ h => h) (Or.inl ⟨by rfl, by intro w hSw; clear hSw; go_simp; (try with_reducible rfl)⟩) (by assumption) ?_
        try simp only [Act.put, List.setIfInBounds_toArray, List.set_cons_zero, List.set_cons_succ]
        clear hU1 hmw
        refine wpAnyH_take (i := 8) (oi := { dst := some 21, op := _, type := _, pos := _, after := _, guard := _ }) (v := .pointer (some ⟨b5, m * 2, none⟩)) rfl (by kernel_rfl) (by kernel_rfl) (by kernel_rfl) (fun _ _ _ h => h) (Or.inl ⟨by rfl, by intro w hSw; clear hSw; go_simp; (try with_reducible rfl)⟩) (by assumption) ?_
        try simp only [Act.put, List.setIfInBounds_toArray, List.set_cons_zero, List.set_cons_succ]
        refine wpAnyH_take (i := 9) (oi := { dst := some 22, op := _, type := _, pos := _, after := _, guard := _ }) (v := .agg (mk 2 fun c => spF k (m * 2 + c))) rfl (by kernel_rfl) (by kernel_rfl) (by kernel_rfl) (fun _ _ _ h => h) (Or.inl ⟨by rfl, fun _ q => execA7 q.2 (by omega) rfl rfl⟩) (by assumption) ?_
        try simp only [Act.put, List.setIfInBounds_toArray, List.set_cons_zero, List.set_cons_succ]
        refine wpAnyH_ready (rs := [4]) (by kernel_rfl) (by simp) ?_
        refine AllReadyH.cons rfl (fun K hK => ?_) AllReadyH.nil
        go_simp
        refine (HAT.out U (by omega) _).mono ?_
        rintro e x1 ⟨rfl, hb⟩
        have K2 := K2.below hb K2.lt
        have K5 := K5.below hb K5.lt
        have HB : Hid (Below w.heap.size w x1) := HB.out.trans (hb.mono HB.out.size)
        clear hb hHeld
        go_wp2_with fail
        refine hK.out _ _ ⟨K2, K5.at⟩ (fun hHeld => ?_)
        clear hK K
        try simp only [Act.put, List.setIfInBounds_toArray, List.set_cons_zero, List.set_cons_succ]
        refine wpAnyH_ready (rs := [10]) (by kernel_rfl) (by simp) ?_
        refine AllReadyH.cons rfl (fun K hK => ?_) AllReadyH.nil
        go_simp
        refine (HAT.out m (by omega) _).mono ?_
        rintro e x2 ⟨rfl, hb⟩
        have K2 := K2.below hb K2.lt
        have K5 := K5.below hb K5.lt
        have HB : Hid (Below w.heap.size w x2) := HB.out.trans (hb.mono HB.out.size)
        clear hb hHeld
        go_wp2_with fail
        refine hK.out _ _ ⟨K2, K5.at⟩ (fun hHeld => ?_)
        clear hK K
        try simp only [Act.put, List.setIfInBounds_toArray, List.set_cons_zero, List.set_cons_succ]
        refine wpAnyH_take (i := 11) (oi := { dst := some 24, op := _, type := _, pos := _, after := _, guard := _ }) (v := .bool true) rfl (by kernel_rfl) (by kernel_rfl) (by kernel_rfl) (fun _ _ _ h => h) (Or.inl ⟨by rfl, by intro w hSw; clear hSw; go_simp; (try with_reducible rfl)⟩) (by assumption) ?_
        try simp only [Act.put, List.setIfInBounds_toArray, List.set_cons_zero, List.set_cons_succ]
        refine wpAnyH_done (by kernel_rfl) ?_ _
        clear hHeld
        go_wp2_with fail
        go_ret
        exact ⟨by rw [HE.out]; rfl, HB.out⟩
      · have HO : Hid (ordG G U = true) := by rw [hU]; exact HY.out m HO.out (by rw [← hU]; omega)
        have hqd : decide (f (plP k m) < f (plP k U)) = false := decide_eq_false hq
        have HU := Lib.hid hU
        clear hq hU
        go_wp2_with fail
        refine wp_region_held_drew (S := fun W => Blk W w.heap.size 16 f 35 ∧ CAt W b5 32 (spF k)) (by kernel_rfl) (⟨K2.drew, K5.drew.at⟩) (fun hHeld => ?_)
        have K2 : Blk wr.drew w.heap.size 16 f 35 := K2.drew
        have K5 : Blk wr.drew b5 32 (spF k) 23 := K5.drew
        have HB : Hid (Below w.heap.size w wr.drew) := HB.out.drew
        generalize wr.drew = x0 at *
        refine wpAnyH_take (i := 0) (oi := { dst := some 13, op := _, type := _, pos := _, after := _, guard := _ }) (v := .agg (mk 16 f)) rfl (by kernel_rfl) (by kernel_rfl) (by kernel_rfl) (fun _ _ _ h => h) (Or.inl ⟨by rfl, fun _ q => execB q.1 rfl rfl⟩) (by assumption) ?_
        try simp only [Act.put, List.setIfInBounds_toArray, List.set_cons_zero, List.set_cons_succ]
        refine wpAnyH_take (i := 1) (oi := { dst := some 14, op := _, type := _, pos := _, after := _, guard := _ }) (v := .int .i64 (U : Int)) rfl (by kernel_rfl) (by kernel_rfl) (by kernel_rfl) (fun _ _ _ h => h) (Or.inl ⟨by rfl, by intro w hSw; clear hSw; go_simp; (try with_reducible rfl)⟩) (by assumption) ?_
        try simp only [Act.put, List.setIfInBounds_toArray, List.set_cons_zero, List.set_cons_succ]
        refine wpAnyH_take (i := 2) (oi := { dst := some 15, op := _, type := _, pos := _, after := _, guard := _ }) (v := .pointer (some ⟨b5, U * 2, none⟩)) rfl (by kernel_rfl) (by kernel_rfl) (by kernel_rfl) (fun _ _ _ h => h) (Or.inl ⟨by rfl, by intro w hSw; clear hSw; go_simp; (try with_reducible rfl)⟩) (by assumption) ?_
        try simp only [Act.put, List.setIfInBounds_toArray, List.set_cons_zero, List.set_cons_succ]
        refine wpAnyH_take (i := 3) (oi := { dst := some 16, op := _, type := _, pos := _, after := _, guard := _ }) (v := .agg (mk 2 fun c => spF k (U * 2 + c))) rfl (by kernel_rfl) (by kernel_rfl) (by kernel_rfl) (fun _ _ _ h => h) (Or.inl ⟨by rfl, fun _ q => execA7 q.2 (by omega) rfl rfl⟩) (by assumption) ?_
        try simp only [Act.put, List.setIfInBounds_toArray, List.set_cons_zero, List.set_cons_succ]
        refine wpAnyH_take (i := 5) (oi := { dst := some 18, op := _, type := _, pos := _, after := _, guard := _ }) (v := .agg (mk 16 f)) rfl (by kernel_rfl) (by kernel_rfl) (by kernel_rfl) (fun _ _ _ h => h) (Or.inl ⟨by rfl, fun _ q => execB q.1 rfl rfl⟩) (by assumption) ?_
        try simp only [Act.put, List.setIfInBounds_toArray, List.set_cons_zero, List.set_cons_succ]
        refine wpAnyH_take (i := 6) (oi := { dst := some 19, op := _, type := _, pos := _, after := _, guard := _ }) (v := .int .i64 (U : Int)) rfl (by kernel_rfl) (by kernel_rfl) (by kernel_rfl) (fun _ _ _ h => h) (Or.inl ⟨by rfl, by intro w hSw; clear hSw; go_simp; (try with_reducible rfl)⟩) (by assumption) ?_
        try simp only [Act.put, List.setIfInBounds_toArray, List.set_cons_zero, List.set_cons_succ]
        refine wpAnyH_take (i := 7) (oi := { dst := some 20, op := _, type := _, pos := _, after := _, guard := _ }) (v := .int .i64 (m : Int)) rfl (by kernel_rfl) (by kernel_rfl) (by kernel_rfl) (fun _ _ _ h => h) (Or.inl ⟨by rfl, by intro w hSw; clear hSw; go_simp; (try with_reducible rfl)⟩) (by assumption) ?_
        try simp only [Act.put, List.setIfInBounds_toArray, List.set_cons_zero, List.set_cons_succ]
        clear hU1 hmw
        refine wpAnyH_take (i := 8) (oi := { dst := some 21, op := _, type := _, pos := _, after := _, guard := _ }) (v := .pointer (some ⟨b5, m * 2, none⟩)) rfl (by kernel_rfl) (by kernel_rfl) (by kernel_rfl) (fun _ _ _ h => h) (Or.inl ⟨by rfl, by intro w hSw; clear hSw; go_simp; (try with_reducible rfl)⟩) (by assumption) ?_
        try simp only [Act.put, List.setIfInBounds_toArray, List.set_cons_zero, List.set_cons_succ]
        refine wpAnyH_take (i := 9) (oi := { dst := some 22, op := _, type := _, pos := _, after := _, guard := _ }) (v := .agg (mk 2 fun c => spF k (m * 2 + c))) rfl (by kernel_rfl) (by kernel_rfl) (by kernel_rfl) (fun _ _ _ h => h) (Or.inl ⟨by rfl, fun _ q => execA7 q.2 (by omega) rfl rfl⟩) (by assumption) ?_
        try simp only [Act.put, List.setIfInBounds_toArray, List.set_cons_zero, List.set_cons_succ]
        refine wpAnyH_ready (rs := [4]) (by kernel_rfl) (by simp) ?_
        refine AllReadyH.cons rfl (fun K hK => ?_) AllReadyH.nil
        go_simp
        refine (HAT.out U (by omega) _).mono ?_
        rintro e x1 ⟨rfl, hb⟩
        have K2 := K2.below hb K2.lt
        have K5 := K5.below hb K5.lt
        have HB : Hid (Below w.heap.size w x1) := HB.out.trans (hb.mono HB.out.size)
        clear hb hHeld
        go_wp2_with fail
        refine hK.out _ _ ⟨K2, K5.at⟩ (fun hHeld => ?_)
        clear hK K
        try simp only [Act.put, List.setIfInBounds_toArray, List.set_cons_zero, List.set_cons_succ]
        refine wpAnyH_ready (rs := [10]) (by kernel_rfl) (by simp) ?_
        refine AllReadyH.cons rfl (fun K hK => ?_) AllReadyH.nil
        go_simp
        refine (HAT.out m (by omega) _).mono ?_
        rintro e x2 ⟨rfl, hb⟩
        have K2 := K2.below hb K2.lt
        have K5 := K5.below hb K5.lt
        have HB : Hid (Below w.heap.size w x2) := HB.out.trans (hb.mono HB.out.size)
        clear hb hHeld
        go_wp2_with fail
        refine hK.out _ _ ⟨K2, K5.at⟩ (fun hHeld => ?_)
        clear hK K
        try simp only [Act.put, List.setIfInBounds_toArray, List.set_cons_zero, List.set_cons_succ]
        refine wpAnyH_take (i := 11) (oi := { dst := some 24, op := _, type := _, pos := _, after := _, guard := _ }) (v := .bool false) rfl (by kernel_rfl) (by kernel_rfl) (by kernel_rfl) (fun _ _ _ h => h) (Or.inl ⟨by rfl, by intro w hSw; clear hSw; go_simp; (try with_reducible rfl)⟩) (by assumption) ?_
        try simp only [Act.put, List.setIfInBounds_toArray, List.set_cons_zero, List.set_cons_succ]
        refine wpAnyH_done (by kernel_rfl) ?_ _
        clear hHeld
        go_wp2_with fail
        go_roundg g
        case rel => exact ⟨U, by have := HU.out; omega, by go_num, HO, K2, K5, HB⟩
        case measure => omega
end Go.Proofs.Ytmcmpedmgibmkab
