/-
  The contract of the reference's l4Before, for every valid row.
-/
import Derived.Test.YtphkidkkcknnmaaSpecSpread
import Derived.Test.YtphkidkkcknnmaaSpecRow
namespace Go.Proofs.Ytphkidkkcknnmaa
open Go.RowKit Plain
attribute [local go_sem] store_new
set_option linter.unusedVariables false
set_option linter.unusedSimpArgs false

theorem sprL_vd {ts : List Int} (h : ∀ x, x ∈ ts → 0 ≤ x ∧ x ≤ 17) {m : Nat} {x : List Int} (hx : x ∈ sprL ts m) : VdRow (fn x) := by
  obtain ⟨c, _, _, rfl⟩ := (sprL_mem ts m x).1 hx
  intro i hi
  rw [fn_cl _ i hi]
  rcases spr_in ts c 4 i with q | q
  · rw [q]; omega
  · exact h _ q

set_option maxHeartbeats 8000000 in
set_option maxRecDepth 100000 in
theorem l4Before_any (r : Nat → Int) (w : World) (hV : VdRow r) :
    Calls Try.prog 91 #[.agg (mk 4 r)] w fun e w' => ∃ g cap, e = .returned (.slice (some ⟨g, 0, none⟩) (befS r 16).length cap) ∧
      OwnsL 22 4 w' w.heap.size (.slice (some ⟨g, 0, none⟩) (befS r 16).length cap) (befS r 16) ∧ Below w.heap.size w w' := by
  obtain ⟨i0, hi, hz0, hz1, hz2⟩ := info_parts infoInt
  have K1 := (Blk.new w 4 r 22).alloc (.cells #[] 22)
  have HB := Lib.hid (((Below.refl w.heap.size w).alloc (Nat.le_refl _) (.cells (mk 4 r) 22)).alloc (by simp) (.cells #[] 22))
  have HU : Hid (OwnsL 22 4 ((w.alloc (.cells (mk 4 r) 22)).alloc (.cells #[] 22)) w.heap.size (.slice (some ⟨w.heap.size + 1, 0, none⟩) 0 0) []) := by
    have := OwnsL.made (t := 22) (m := 4) (b := w.heap.size) (w.alloc (.cells (mk 4 r) 22)) (by simp)
    rw [show (w.alloc (.cells (mk 4 r) 22)).heap.size = w.heap.size + 1 by simp] at this
    exact this
  have HV := Lib.hid hV
  clear hV
  go_enter Try.func91, Try.ntmps91
  go_wp2_with fail
  go_loopg [3, 4] 16 (fun gk s3 s4 wr => ∃ (c : Nat) (u : Value), c + gk = 16 ∧ s4 = .int .i64 c ∧ u = s3 ∧ (∃ gu cu, u = .slice (some ⟨gu, 0, none⟩) (befS r c).length cu) ∧ Hid (OwnsL 22 4 wr w.heap.size u (befS r c)) ∧ Blk wr w.heap.size 4 r 22 ∧ Hid (Below w.heap.size w wr))
  case atStart => exact ⟨0, _, by omega, rfl, rfl, ⟨_, _, rfl⟩, HU, K1, HB⟩
  case round =>
    obtain ⟨c, u, hcg, rfl, rfl, ⟨gu, cu, hu⟩, HU, K1, HB⟩ := hrel
    subst hu
    cases gk with
    | zero =>
      have hk : ¬ ((c : Int) < 16) := by omega
      obtain rfl : c = 16 := by omega
      clear hcg hk
      go_wp2_with fail
      go_ret
      exact ⟨gu, cu, rfl, HU.out, HB.out⟩
    | succ gk2 =>
      have hc16 : (c : Int) < 16 := by omega
      have HT : Hid (OwnsInts (wr.alloc (.cells #[] 3)) w.heap.size (.slice (some ⟨wr.heap.size, 0, none⟩) 0 0) []) := World.ownsRow_made (base := w.heap.size) (e := 3) (size := 1) wr #[] 0 HB.out.size (by decide) rfl
      have HU : Hid (OwnsL 22 4 (wr.alloc (.cells #[] 3)) w.heap.size (.slice (some ⟨gu, 0, none⟩) (befS r c).length cu) (befS r c)) := HU.out.alloc _
      have K1 := K1.alloc (.cells #[] 3)
      have HB : Hid (Below w.heap.size w (wr.alloc (.cells #[] 3))) := HB.out.alloc HB.out.size _
      go_wp2_with fail
      generalize wr.alloc (.cells #[] 3) = wy at *
      go_loopg [5, 6] 4 (fun gj s5 s6 wx => ∃ (k : Nat) (v : Value), k + gj = 4 ∧ s6 = .int .i64 k ∧ v = s5 ∧ (∃ gt ct, v = .slice (some ⟨gt, 0, none⟩) (tls r c k).length ct) ∧ Hid (OwnsInts wx w.heap.size v (tls r c k)) ∧ Hid (∀ j, j < k → 0 < r j) ∧ Hid (OwnsL 22 4 wx w.heap.size (.slice (some ⟨gu, 0, none⟩) (befS r c).length cu) (befS r c)) ∧ Blk wx w.heap.size 4 r 22 ∧ Hid (Below w.heap.size w wx))
      case atStart => exact ⟨0, _, by omega, rfl, rfl, ⟨_, _, rfl⟩, HT, fun j hj => by omega, HU, K1, HB⟩
      case round =>
        obtain ⟨k, v, hkg, rfl, rfl, ⟨gt, ct, hv⟩, HT, HP, HU, K1, HB⟩ := hrel
        subst hv
        by_cases hgo : k < 4 ∧ 0 < r k
        · obtain ⟨hk9, hx0⟩ := hgo
          obtain ⟨gj2, rfl⟩ : ∃ gj2, gk = gj2 + 1 := ⟨gk - 1, by omega⟩
          have hk4 : (k : Int) < 4 := by omega
          have hk0 : (0 : Int) ≤ (k : Int) := by omega
          have hbit := bitF (c := c) (k := k) (by omega) hk9
          have HPN : Hid (∀ j, j < k + 1 → 0 < r j) := fun j hj => by
            rcases (by omega : j < k ∨ j = k) with q | rfl
            · exact HP.out j q
            · exact hx0
          have hx17 := (HV.out k hk9).2
          have hle := tls_len r c k
          have hle8 : (tls r c k).length ≤ 8 := by omega
          clear hle
          have c1 := K1.cell (i := k) hk9
          generalize hX : r k = x at c1 hx0 hx17
          have HX := Lib.hid hX
          clear hX
          have hw : IntKind.i64.wrap (x - 1) = x - 1 := IntWalk.i64_in _ (by omega)
          by_cases hb : c.testBit k = true
          · rw [hb] at hbit
            have HBT := Lib.hid hb
            clear hb
            go_wp2_with fail
            have K1 : Blk wr.drew w.heap.size 4 r 22 := K1.drew
            have HT : Hid (OwnsInts wr.drew w.heap.size (.slice (some ⟨gt, 0, none⟩) (tls r c k).length ct) (tls r c k)) := HT.out
            have HU : Hid (OwnsL 22 4 wr.drew w.heap.size (.slice (some ⟨gu, 0, none⟩) (befS r c).length cu) (befS r c)) := HU.out
            have HB : Hid (Below w.heap.size w wr.drew) := HB.out.drew
            refine wp_region_held_drew (S := fun W => Blk W w.heap.size 4 r 22) (by kernel_rfl) (K1) (fun hHeld => ?_)
            clear hHeld
            generalize wr.drew = x0 at *
            have hHeld := K1
            refine wpAnyH_take (i := 0) (oi := { dst := some 32, op := _, type := _, pos := _, after := _, guard := _ }) (v := .slice (some ⟨gt, 0, none⟩) (tls r c k).length ct) rfl (by kernel_rfl) (by kernel_rfl) (by kernel_rfl) (fun _ _ _ h => h) (Or.inl ⟨by rfl, by intro w hSw; clear hSw; go_simp; (try with_reducible rfl)⟩) (by assumption) ?_
            try simp only [Act.put, List.setIfInBounds_toArray, List.set_cons_zero, List.set_cons_succ]
            refine wpAnyH_take (i := 1) (oi := { dst := some 33, op := _, type := _, pos := _, after := _, guard := _ }) (v := .int .i64 (k : Int)) rfl (by kernel_rfl) (by kernel_rfl) (by kernel_rfl) (fun _ _ _ h => h) (Or.inl ⟨by rfl, by intro w hSw; clear hSw; go_simp; (try with_reducible rfl)⟩) (by assumption) ?_
            try simp only [Act.put, List.setIfInBounds_toArray, List.set_cons_zero, List.set_cons_succ]
            refine wpAnyH_take (i := 2) (oi := { dst := some 34, op := _, type := _, pos := _, after := _, guard := _ }) (v := .pointer (some ⟨w.heap.size, k, none⟩)) rfl (by kernel_rfl) (by kernel_rfl) (by kernel_rfl) (fun _ _ _ h => h) (Or.inl ⟨by rfl, by intro w hSw; clear hSw; go_simp; (try with_reducible rfl)⟩) (by assumption) ?_
            try simp only [Act.put, List.setIfInBounds_toArray, List.set_cons_zero, List.set_cons_succ]
            refine wpAnyH_take (i := 3) (oi := { dst := some 35, op := _, type := _, pos := _, after := _, guard := _ }) (v := .int .i64 x) rfl (by kernel_rfl) (by kernel_rfl) (by kernel_rfl) (fun _ _ _ h => h) (Or.inl ⟨by rfl, by intro W hSw; have c9 := hSw.cell (i := k) (by omega); rw [HX.out] at c9; clear hSw; go_simp⟩) (by assumption) ?_
            try simp only [Act.put, List.setIfInBounds_toArray, List.set_cons_zero, List.set_cons_succ]
            refine wpAnyH_take (i := 4) (oi := { dst := some 36, op := _, type := _, pos := _, after := _, guard := _ }) (v := .int .i64 (x - 1)) rfl (by kernel_rfl) (by kernel_rfl) (by kernel_rfl) (fun _ _ _ h => h) (Or.inl ⟨by rfl, by intro w hSw; clear hSw; go_simp; (try with_reducible rfl)⟩) (by assumption) ?_
            try simp only [Act.put, List.setIfInBounds_toArray, List.set_cons_zero, List.set_cons_succ]
            refine wpAnyH_take (i := 5) (oi := { dst := some 37, op := _, type := _, pos := _, after := _, guard := _ }) (v := .int .i64 (k : Int)) rfl (by kernel_rfl) (by kernel_rfl) (by kernel_rfl) (fun _ _ _ h => h) (Or.inl ⟨by rfl, by intro w hSw; clear hSw; go_simp; (try with_reducible rfl)⟩) (by assumption) ?_
            try simp only [Act.put, List.setIfInBounds_toArray, List.set_cons_zero, List.set_cons_succ]
            refine wpAnyH_take (i := 6) (oi := { dst := some 38, op := _, type := _, pos := _, after := _, guard := _ }) (v := .pointer (some ⟨w.heap.size, k, none⟩)) rfl (by kernel_rfl) (by kernel_rfl) (by kernel_rfl) (fun _ _ _ h => h) (Or.inl ⟨by rfl, by intro w hSw; clear hSw; go_simp; (try with_reducible rfl)⟩) (by assumption) ?_
            try simp only [Act.put, List.setIfInBounds_toArray, List.set_cons_zero, List.set_cons_succ]
            refine wpAnyH_take (i := 7) (oi := { dst := some 39, op := _, type := _, pos := _, after := _, guard := _ }) (v := .int .i64 x) rfl (by kernel_rfl) (by kernel_rfl) (by kernel_rfl) (fun _ _ _ h => h) (Or.inl ⟨by rfl, by intro W hSw; have c9 := hSw.cell (i := k) (by omega); rw [HX.out] at c9; clear hSw; go_simp⟩) (by assumption) ?_
            try simp only [Act.put, List.setIfInBounds_toArray, List.set_cons_zero, List.set_cons_succ]
            refine wpAnyH_take (i := 8) (oi := { dst := some 40, op := _, type := _, pos := _, after := _, guard := _ }) (v := .int .i64 (x - 1)) rfl (by kernel_rfl) (by kernel_rfl) (by kernel_rfl) (fun _ _ _ h => h) (Or.inl ⟨by rfl, by intro w hSw; clear hSw; go_simp; (try with_reducible rfl)⟩) (by assumption) ?_
            try simp only [Act.put, List.setIfInBounds_toArray, List.set_cons_zero, List.set_cons_succ]
            clear hHeld
            refine wpAnyH_ready (rs := [9]) (by kernel_rfl) (by simp) ?_
            refine AllReadyH.cons rfl (fun K hK => ?_) AllReadyH.nil
            go_simp
            have K1 := K1.alloc (.cells #[.int .i64 (x - 1), .int .i64 (x - 1)] 3)
            have HTa := World.ownsRow.alloc HT.out (.cells #[.int .i64 (x - 1), .int .i64 (x - 1)] 3)
            have HU : Hid (OwnsL 22 4 (x0.alloc (.cells #[.int .i64 (x - 1), .int .i64 (x - 1)] 3)) w.heap.size (.slice (some ⟨gu, 0, none⟩) (befS r c).length cu) (befS r c)) := HU.out.alloc _
            have HB : Hid (Below w.heap.size w (x0.alloc (.cells #[.int .i64 (x - 1), .int .i64 (x - 1)] 3))) := HB.out.alloc HB.out.size _
            have hcn := cell_two_new x0 (.int .i64 (x - 1)) (.int .i64 (x - 1)) 3
            generalize x0.alloc (.cells #[.int .i64 (x - 1), .int .i64 (x - 1)] 3) = x1 at *
            refine hK.out _ _ K1 (fun hHeld => ?_)
            clear hK K hHeld
            try simp only [Act.put, List.setIfInBounds_toArray, List.set_cons_zero, List.set_cons_succ]
            refine wpAnyH_ready (rs := [10]) (by kernel_rfl) (by simp) ?_
            refine AllReadyH.cons rfl (fun K hK => ?_) AllReadyH.nil
            rw [if_pos (by rfl)]
            refine Go.wp_append_own _ _ _ 35 rfl w.heap.size 3 i0 (.int .i64 0) 1 8 Try.underlying35 hi hz0 hz1 hz2 rfl (by decide) (.slice (some ⟨gt, 0, none⟩) (tls r c k).length ct) (tls r c k).length _ rfl HTa ⟨x0.heap.size, 0, none⟩ 2 2 [.int .i64 (x - 1), .int .i64 (x - 1)] rfl rfl hcn (by simp [Value.oneCell']) (by unfold maxLen; omega) (by omega) HB.out.size ?_
            intro v' x2 hown' hgr _
            have K1 := K1.grown hgr (fun e => own_ne_blk HTa K1 (by decide) e.symm)
            have HU : Hid (OwnsL 22 4 x2 w.heap.size (.slice (some ⟨gu, 0, none⟩) (befS r c).length cu) (befS r c)) := World.ownsRow.kept HU.out hgr (own_ne_own HU.out HTa (by decide))
            have HB : Hid (Below w.heap.size w x2) := HB.out.grown hgr HB.out.size (fun j hj => (HTa.lt j hj).1)
            have HTn : Hid (x2.ownsRow w.heap.size 3 1 v' ((tls r c k).length + 2) ((tls r c k).map (Value.int .i64) ++ [.int .i64 (x - 1), .int .i64 (x - 1)])) := hown'
            clear hown' hgr HTa hcn
            refine hK.out _ _ K1 (fun hHeld => ?_)
            clear hK K
            try simp only [Act.put, List.setIfInBounds_toArray, List.set_cons_zero, List.set_cons_succ]
            refine wpAnyH_take (i := 11) (oi := { dst := some 5, op := _, type := _, pos := _, after := _, guard := _ }) (v := v') rfl (by kernel_rfl) (by kernel_rfl) (by kernel_rfl) (fun _ _ _ h => h) (Or.inl ⟨by rfl, by intro w hSw; clear hSw; go_simp; (try with_reducible rfl)⟩) (by assumption) ?_
            try simp only [Act.put, List.setIfInBounds_toArray, List.set_cons_zero, List.set_cons_succ]
            refine wpAnyH_done (by kernel_rfl) ?_ _
            clear hHeld
            have Y : Hid (tls r c (k + 1) = tls r c k ++ [x - 1, x - 1]) := by show _ = _; rw [tls, if_pos HBT.out, HX.out]
            obtain ⟨g', c', hv'⟩ := ownsRow_succ HTn.out
            have HVv : Hid (∃ gg cap, v' = .slice (some ⟨gg, 0, none⟩) (tls r c (k + 1)).length cap) := ⟨g', c', by rw [Y.out, List.length_append]; exact hv'⟩
            have HT : Hid (OwnsInts x2 w.heap.size v' (tls r c (k + 1))) := by
              show OwnsInts _ _ _ _
              unfold OwnsInts
              rw [Y.out, List.map_append, List.length_append]
              exact HTn.out
            clear HTn hv'
            go_wp2_with fail
            go_roundg gj2
            case rel => exact ⟨k + 1, _, by omega, by go_num, rfl, HVv.out, HT, HPN, HU, K1, HB⟩
            case measure => omega
          · have hb2 : c.testBit k = false := by simpa using hb
            rw [hb2] at hbit
            clear hb
            have Y : Hid (tls r c (k + 1) = tls r c k ++ [x]) := by show _ = _; rw [tls, hb2, HX.out]; rfl
            clear hb2
            have hbs := HB.out.size
            have HTa := World.ownsRow.alloc HT.out (.cells #[.int .i64 x] 3)
            go_wp2_with (first | (at_builtin; refine wpList_append_own _ rfl _ _ 35 rfl w.heap.size 3 i0 (.int .i64 0) 1 8 Try.underlying35 hi hz0 hz1 hz2 rfl (by decide) (.slice (some ⟨gt, 0, none⟩) (tls r c k).length ct) (tls r c k).length _ rfl HTa ⟨wr.heap.size, 0, none⟩ 1 1 [.int .i64 x] rfl rfl ?c1 ?c2 ?c3 ?c4 ?c5 ?_))
            case c1 =>
              have := cell_one_new wr (.int .i64 x) 3
              simpa only [World.size_alloc] using this
            case c2 => simp [Value.oneCell']
            case c3 => unfold maxLen; omega
            case c4 => omega
            case c5 => simp; omega
            intro v' w2 hown' hgr _
            have K1 := (K1.alloc (.cells #[.int .i64 x] 3)).grown hgr (fun e => own_ne_blk HTa (K1.alloc _) (by decide) e.symm)
            have HU : Hid (OwnsL 22 4 w2 w.heap.size (.slice (some ⟨gu, 0, none⟩) (befS r c).length cu) (befS r c)) := World.ownsRow.kept (HU.out.alloc (.cells #[.int .i64 x] 3)) hgr (own_ne_own (HU.out.alloc (.cells #[.int .i64 x] 3)) HTa (by decide))
            have HB : Hid (Below w.heap.size w w2) := (HB.out.alloc hbs _).grown hgr (by simp; omega) (fun j hj => (HTa.lt j hj).1)
            obtain ⟨g', c', hv'⟩ := ownsRow_succ hown'
            have HVv : Hid (∃ gg cap, v' = .slice (some ⟨gg, 0, none⟩) (tls r c (k + 1)).length cap) := ⟨g', c', by rw [Y.out, List.length_append]; exact hv'⟩
            have HT : Hid (OwnsInts w2 w.heap.size v' (tls r c (k + 1))) := by
              show OwnsInts _ _ _ _
              unfold OwnsInts
              rw [Y.out, List.map_append, List.length_append]
              exact hown'
            clear hown' hgr hv' HTa
            go_wp2_with fail
            go_roundg gj2
            case rel => exact ⟨k + 1, _, by omega, by go_num, rfl, HVv.out, HT, HPN, HU, K1, HB⟩
            case measure => omega
        · have HLD : Hid (led r = k) := led_eq (by omega) (fun j hj => HP.out j hj) (by
            by_cases h4 : k = 4
            · exact Or.inl h4
            · right
              have : ¬ 0 < r k := fun q => hgo ⟨by omega, q⟩
              omega)
          have hle := tls_len r c k
          have hle8 : (tls r c k).length ≤ 8 := by omega
          have HCT : Hid (CAt wr gt (tls r c k).length (fn (tls r c k))) := CAt.of_ints HT.out
          have HCH := l1Has_any gt ct (tls r c k) 0 wr HCT.out (by omega)
          clear hle
          by_cases h4 : k = 4
          · have hk4 : ¬ ((k : Int) < 4) := by omega
            generalize hts : tls r c k = ts at *
            have HTS : Hid (tls r c (led r) = ts) := by show _ = _; rw [HLD.out]; exact hts
            clear hts
            by_cases hl4 : 4 < ts.length
            · have Y : Hid (befS r (c + 1) = befS r c) := by
                show _ = _
                rw [befS, if_neg]
                unfold tlsOk
                rw [HTS.out]
                simp; omega
              have hl5 : (4 : Int) < (ts.length : Int) := by omega
              clear HCH hl4
              go_wp2_with fail
              go_roundg gk2
              case rel => exact ⟨c + 1, _, by omega, by go_num, rfl, ⟨gu, cu, by rw [Y.out]⟩, by rw [Y.out]; exact HU, K1, HB⟩
              case measure => omega
            · have hl5 : ¬ ((4 : Int) < (ts.length : Int)) := by omega
              generalize hd : decide ((0 : Int) ∈ ts) = d0 at HCH
              have HD := Lib.hid hd
              clear hd
              go_wp2_with fail
              refine HCH.mono ?_
              rintro e w' ⟨rfl, rfl⟩
              clear HCH
              cases d0 with
              | true =>
                have Y : Hid (befS r (c + 1) = befS r c) := by
                  show _ = _
                  rw [befS, if_neg]
                  unfold tlsOk
                  rw [HTS.out]
                  have := of_decide_eq_true HD.out
                  simp [this]
                go_wp2_with fail
                go_roundg gk2
                case rel => exact ⟨c + 1, _, by omega, by go_num, rfl, ⟨gu, cu, by rw [Y.out]⟩, by rw [Y.out]; exact HU, K1, HB⟩
                case measure => omega
              | false =>
                have h0n : ¬ (0 : Int) ∈ ts := of_decide_eq_false HD.out
                have Y : Hid (befS r (c + 1) = insR r (sprL ts 16) (befS r c) (sprL ts 16).length) := by
                  show _ = _
                  rw [befS, if_pos, HTS.out]
                  unfold tlsOk
                  rw [HTS.out]
                  exact decide_eq_true ⟨by omega, h0n⟩
                have HXV : Hid (∀ x, x ∈ sprL ts 16 → VdRow (fn x)) := fun x hx => sprL_vd (fun y hy => by
                  have q1 := tls_mem HV.out c (led r) (led_le r) y (by rw [HTS.out]; exact hy)
                  have q2 := tls_pos (led r) (led_pos r) y (by rw [HTS.out]; exact hy)
                  exact ⟨q2, q1.2⟩) hx
                have hxl := sprL_len ts 16
                have hbl := befS_len r c
                have HIL : Hid (∀ i, i ≤ 16 → (insR r (sprL ts 16) (befS r c) i).length ≤ 65536) := fun i hi => by
                  have := insR_le r (sprL ts 16) (befS r c) i
                  omega
                have HIA : Hid (∀ i, i ≤ (sprL ts 16).length → AllL 4 (insR r (sprL ts 16) (befS r c) i)) := fun i hi => insR_all (sprL_all ts 16) (befS_all c) i hi
                clear h0n hbl
                go_wp2_with fail
                refine (l4Spread_any gt ct ts _ (by omega) HCT.out).mono ?_
                rintro e w5 ⟨gx, cx, rfl, hox, hb⟩
                obtain ⟨_, _, e1, hcx, CX⟩ := KRow.of_list (sprL_all ts 16) hox
                cases e1
                have HXA : Hid (∀ i x, (sprL ts 16)[i]? = some x → ∀ j, j < 4 → flatF (sprL ts 16) (i * 4 + j) = fn x j) := fun i x hx j hj => flatF_at (sprL_all ts 16) hx hj
                have HXL : Hid (∀ x, x ∈ sprL ts 16 → x.length = 4) := sprL_all ts 16
                have K1 := K1.below hb K1.lt
                have HU : Hid (OwnsL 22 4 w5 w.heap.size (.slice (some ⟨gu, 0, none⟩) (befS r c).length cu) (befS r c)) := HU.out.below hb
                have HB : Hid (Below w.heap.size w w5) := HB.out.trans (hb.mono HB.out.size)
                clear hb hox HCT HT
                generalize hXX : sprL ts 16 = X at *
                generalize hFX : flatF X = hX at *
                generalize hNX : X.length = nX at *
                generalize hII : befS r c = I at *
                go_wp2_with fail
                go_loopg [3, 8] nX (fun gj s3 s8 wx => ∃ (i : Nat) (u : Value), i + gj = nX ∧ s8 = .int .i64 i ∧ u = s3 ∧ (∃ gu cu, u = .slice (some ⟨gu, 0, none⟩) (insR r X I i).length cu) ∧ Hid (OwnsL 22 4 wx w.heap.size u (insR r X I i)) ∧ CAt wx gx (nX * 4) hX ∧ Blk wx w.heap.size 4 r 22 ∧ Hid (Below w.heap.size w wx))
                case atStart => exact ⟨0, _, by omega, rfl, rfl, ⟨gu, cu, rfl⟩, HU, CX, K1, HB⟩
                case round =>
                  obtain ⟨i, u, hig, rfl, rfl, ⟨gu, cu, hu⟩, HU, CX, K1, HB⟩ := hrel
                  subst hu
                  cases gk with
                  | zero =>
                    have hk : ¬ ((i : Int) < (nX : Int)) := by omega
                    obtain rfl : i = nX := by omega
                    go_wp2_with fail
                    go_roundg gk2
                    case rel => exact ⟨c + 1, _, by omega, by go_num, rfl, ⟨gu, cu, by rw [Y.out]⟩, by rw [Y.out]; exact HU, K1, HB⟩
                    case measure => omega
                  | succ gi2 =>
                    have hi4 : (i : Int) < (nX : Int) := by omega
                    have hi0 : (0 : Int) ≤ (i : Int) := by omega
                    have hi9 : i < nX := by omega
                    obtain ⟨x, hx⟩ : ∃ x, X[i]? = some x := ⟨X[i]'(by omega), List.getElem?_eq_getElem _⟩
                    have HFX : Hid (∀ j, j < 4 → hX (i * 4 + j) = fn x j) := HXA.out i x hx
                    have HFV : Hid (VdRow (fun j => hX (i * 4 + j))) := fun j hj => by
                      show 0 ≤ hX (i * 4 + j) ∧ hX (i * 4 + j) ≤ 17
                      rw [HFX.out j hj]; exact HXV.out x (List.mem_of_getElem? hx) j hj
                    have HCX : Hid (cl 4 (fun j => hX (i * 4 + j)) = x) := by
                      show _ = _
                      rw [← cl_fn (HXL.out x (List.mem_of_getElem? hx)), cl_inj]; exact HFX.out
                    have HSL : Hid (slid (fn x) 4 = slid (fun j => hX (i * 4 + j)) 4) := slid_congr 4 fun j hj => (HFX.out j hj).symm
                    have HXI := Lib.hid hx
                    clear hx
                    go_wp2_with (first | ((with_reducible show wpList _ _ _ (Oper.mk _ (Op.load 22 _) _ _ _ _ :: _) _ _); refine loadAR (off := i * 4) CX (by omega) rfl rfl rfl ?_))
                    have HFq : Hid ((fun j => hX (i * 4 + j)) = fun j => hX (i * 4 + j)) := rfl
                    refine (l2Row_any (fun j => hX (i * 4 + j)) _ HFV.out).mono ?_
                    rintro e w6 ⟨rfl, hb⟩
                    have K1 := K1.below hb K1.lt
                    have CX := CX.below hb
                    have HU : Hid (OwnsL 22 4 w6 w.heap.size (.slice (some ⟨gu, 0, none⟩) (insR r X I i).length cu) (insR r X I i)) := HU.out.below hb
                    have HB : Hid (Below w.heap.size w w6) := HB.out.trans (hb.mono HB.out.size)
                    clear hb
                    have iE : ∀ (w : World), (Op.equalIn 10000 22 (.agg (mk 4 (slid (fun j => hX (i * 4 + j)) 4).row)) (.agg (mk 4 r))).run Try.prog w = .ok (sameR (slid (fun j => hX (i * 4 + j)) 4).row r) w := fun w => eqR 9998 _ _ w
                    have HNI := Lib.hid (HIL.out i (by omega))
                    have HAI := Lib.hid (HIA.out i (by omega))
                    have HYT : Hid (sameR (slid (fun j => hX (i * 4 + j)) 4).row r = true → insR r X I (i + 1) = insL (lt 4) (insR r X I i) x) := fun q => by
                      rw [insR]; simp only [HXI.out]; rw [if_pos (by rw [HSL.out]; exact q)]
                    have HYF : Hid (sameR (slid (fun j => hX (i * 4 + j)) 4).row r = false → insR r X I (i + 1) = insR r X I i) := fun q => by
                      rw [insR]; simp only [HXI.out]; rw [if_neg (by rw [HSL.out, q]; simp)]
                    generalize hR9 : (slid (fun j => hX (i * 4 + j)) 4).row = R9 at *
                    clear hR9
                    have z4 := zero4
                    have K9 := Blk.new w6 4 R9 22
                    have K1 := K1.alloc (.cells (mk 4 R9) 22)
                    have CX := CX.alloc (.cells (mk 4 R9) 22)
                    have HU : Hid (OwnsL 22 4 (w6.alloc (.cells (mk 4 R9) 22)) w.heap.size (.slice (some ⟨gu, 0, none⟩) (insR r X I i).length cu) (insR r X I i)) := HU.out.alloc _
                    have HB : Hid (Below w.heap.size w (w6.alloc (.cells (mk 4 R9) 22))) := HB.out.alloc HB.out.size _
                    cases hs : sameR R9 r with
                    | true =>
                      have Z := Lib.hid (HYT.out hs)
                      rw [hs] at iE
                      clear hs HYT HYF
                      go_wp2_with (first | ((with_reducible show wpList _ _ _ (Oper.mk _ (Op.load 22 _) _ _ _ _ :: _) _ _); refine loadR (K9) rfl rfl rfl ?_) | ((with_reducible show wpList _ _ _ (Oper.mk _ (Op.load 22 _) _ _ _ _ :: _) _ _); refine loadR (K1) rfl rfl rfl ?_) | ((with_reducible show wpList _ _ _ (Oper.mk _ (Op.load 22 _) _ _ _ _ :: _) _ _); refine loadAR (off := i * 4) CX (by omega) rfl rfl rfl ?_))
                      refine (l4Put_any gu cu w.heap.size (insR r X I i) (fun j => hX (i * 4 + j)) _ HAI.out HNI.out HU.out).mono ?_
                      rw [HCX.out, ← Z.out]
                      rintro e w7 ⟨g7, c7, rfl, ho7, hb⟩
                      have HU : Hid (OwnsL 22 4 w7 w.heap.size (.slice (some ⟨g7, 0, none⟩) (insR r X I (i + 1)).length c7) (insR r X I (i + 1))) := ho7
                      have K1 := K1.below hb K1.lt
                      have CX := CX.below hb
                      have HB : Hid (Below w.heap.size w w7) := HB.out.trans (hb.mono HB.out.size)
                      clear hb ho7
                      go_wp2_with fail
                      go_roundg gi2
                      case rel => exact ⟨i + 1, _, by omega, by go_num, rfl, ⟨g7, c7, rfl⟩, HU, CX, K1, HB⟩
                      case measure => omega
                    | false =>
                      have Z := Lib.hid (HYF.out hs)
                      rw [hs] at iE
                      clear hs HYT HYF
                      go_wp2_with (first | ((with_reducible show wpList _ _ _ (Oper.mk _ (Op.load 22 _) _ _ _ _ :: _) _ _); refine loadR (K9) rfl rfl rfl ?_) | ((with_reducible show wpList _ _ _ (Oper.mk _ (Op.load 22 _) _ _ _ _ :: _) _ _); refine loadR (K1) rfl rfl rfl ?_))
                      go_roundg gi2
                      case rel => exact ⟨i + 1, _, by omega, by go_num, rfl, ⟨gu, cu, by rw [Z.out]⟩, by rw [Z.out]; exact HU, CX, K1, HB⟩
                      case measure => omega
          · have hk4 : (k : Int) < 4 := by omega
            have hk9 : k < 4 := by omega
            have hk0 : (0 : Int) ≤ (k : Int) := by omega
            have c1 := K1.cell (i := k) hk9
            have hx0 : ¬ (0 < r k) := fun q => hgo ⟨hk9, q⟩
            generalize hX : r k = x at c1 hx0
            clear hX
            generalize hts : tls r c k = ts at *
            have HTS : Hid (tls r c (led r) = ts) := by show _ = _; rw [HLD.out]; exact hts
            clear hts
            by_cases hl4 : 4 < ts.length
            · have Y : Hid (befS r (c + 1) = befS r c) := by
                show _ = _
                rw [befS, if_neg]
                unfold tlsOk
                rw [HTS.out]
                simp; omega
              have hl5 : (4 : Int) < (ts.length : Int) := by omega
              clear HCH hl4
              go_wp2_with fail
              go_roundg gk2
              case rel => exact ⟨c + 1, _, by omega, by go_num, rfl, ⟨gu, cu, by rw [Y.out]⟩, by rw [Y.out]; exact HU, K1, HB⟩
              case measure => omega
            · have hl5 : ¬ ((4 : Int) < (ts.length : Int)) := by omega
              generalize hd : decide ((0 : Int) ∈ ts) = d0 at HCH
              have HD := Lib.hid hd
              clear hd
              go_wp2_with fail
              refine HCH.mono ?_
              rintro e w' ⟨rfl, rfl⟩
              clear HCH
              cases d0 with
              | true =>
                have Y : Hid (befS r (c + 1) = befS r c) := by
                  show _ = _
                  rw [befS, if_neg]
                  unfold tlsOk
                  rw [HTS.out]
                  have := of_decide_eq_true HD.out
                  simp [this]
                go_wp2_with fail
                go_roundg gk2
                case rel => exact ⟨c + 1, _, by omega, by go_num, rfl, ⟨gu, cu, by rw [Y.out]⟩, by rw [Y.out]; exact HU, K1, HB⟩
                case measure => omega
              | false =>
                have h0n : ¬ (0 : Int) ∈ ts := of_decide_eq_false HD.out
                have Y : Hid (befS r (c + 1) = insR r (sprL ts 16) (befS r c) (sprL ts 16).length) := by
                  show _ = _
                  rw [befS, if_pos, HTS.out]
                  unfold tlsOk
                  rw [HTS.out]
                  exact decide_eq_true ⟨by omega, h0n⟩
                have HXV : Hid (∀ x, x ∈ sprL ts 16 → VdRow (fn x)) := fun x hx => sprL_vd (fun y hy => by
                  have q1 := tls_mem HV.out c (led r) (led_le r) y (by rw [HTS.out]; exact hy)
                  have q2 := tls_pos (led r) (led_pos r) y (by rw [HTS.out]; exact hy)
                  exact ⟨q2, q1.2⟩) hx
                have hxl := sprL_len ts 16
                have hbl := befS_len r c
                have HIL : Hid (∀ i, i ≤ 16 → (insR r (sprL ts 16) (befS r c) i).length ≤ 65536) := fun i hi => by
                  have := insR_le r (sprL ts 16) (befS r c) i
                  omega
                have HIA : Hid (∀ i, i ≤ (sprL ts 16).length → AllL 4 (insR r (sprL ts 16) (befS r c) i)) := fun i hi => insR_all (sprL_all ts 16) (befS_all c) i hi
                clear h0n hbl
                go_wp2_with fail
                refine (l4Spread_any gt ct ts _ (by omega) HCT.out).mono ?_
                rintro e w5 ⟨gx, cx, rfl, hox, hb⟩
                obtain ⟨_, _, e1, hcx, CX⟩ := KRow.of_list (sprL_all ts 16) hox
                cases e1
                have HXA : Hid (∀ i x, (sprL ts 16)[i]? = some x → ∀ j, j < 4 → flatF (sprL ts 16) (i * 4 + j) = fn x j) := fun i x hx j hj => flatF_at (sprL_all ts 16) hx hj
                have HXL : Hid (∀ x, x ∈ sprL ts 16 → x.length = 4) := sprL_all ts 16
                have K1 := K1.below hb K1.lt
                have HU : Hid (OwnsL 22 4 w5 w.heap.size (.slice (some ⟨gu, 0, none⟩) (befS r c).length cu) (befS r c)) := HU.out.below hb
                have HB : Hid (Below w.heap.size w w5) := HB.out.trans (hb.mono HB.out.size)
                clear hb hox HCT HT
                generalize hXX : sprL ts 16 = X at *
                generalize hFX : flatF X = hX at *
                generalize hNX : X.length = nX at *
                generalize hII : befS r c = I at *
                go_wp2_with fail
                go_loopg [3, 8] nX (fun gj s3 s8 wx => ∃ (i : Nat) (u : Value), i + gj = nX ∧ s8 = .int .i64 i ∧ u = s3 ∧ (∃ gu cu, u = .slice (some ⟨gu, 0, none⟩) (insR r X I i).length cu) ∧ Hid (OwnsL 22 4 wx w.heap.size u (insR r X I i)) ∧ CAt wx gx (nX * 4) hX ∧ Blk wx w.heap.size 4 r 22 ∧ Hid (Below w.heap.size w wx))
                case atStart => exact ⟨0, _, by omega, rfl, rfl, ⟨gu, cu, rfl⟩, HU, CX, K1, HB⟩
                case round =>
                  obtain ⟨i, u, hig, rfl, rfl, ⟨gu, cu, hu⟩, HU, CX, K1, HB⟩ := hrel
                  subst hu
                  cases gk with
                  | zero =>
                    have hk : ¬ ((i : Int) < (nX : Int)) := by omega
                    obtain rfl : i = nX := by omega
                    go_wp2_with fail
                    go_roundg gk2
                    case rel => exact ⟨c + 1, _, by omega, by go_num, rfl, ⟨gu, cu, by rw [Y.out]⟩, by rw [Y.out]; exact HU, K1, HB⟩
                    case measure => omega
                  | succ gi2 =>
                    have hi4 : (i : Int) < (nX : Int) := by omega
                    have hi0 : (0 : Int) ≤ (i : Int) := by omega
                    have hi9 : i < nX := by omega
                    obtain ⟨x, hx⟩ : ∃ x, X[i]? = some x := ⟨X[i]'(by omega), List.getElem?_eq_getElem _⟩
                    have HFX : Hid (∀ j, j < 4 → hX (i * 4 + j) = fn x j) := HXA.out i x hx
                    have HFV : Hid (VdRow (fun j => hX (i * 4 + j))) := fun j hj => by
                      show 0 ≤ hX (i * 4 + j) ∧ hX (i * 4 + j) ≤ 17
                      rw [HFX.out j hj]; exact HXV.out x (List.mem_of_getElem? hx) j hj
                    have HCX : Hid (cl 4 (fun j => hX (i * 4 + j)) = x) := by
                      show _ = _
                      rw [← cl_fn (HXL.out x (List.mem_of_getElem? hx)), cl_inj]; exact HFX.out
                    have HSL : Hid (slid (fn x) 4 = slid (fun j => hX (i * 4 + j)) 4) := slid_congr 4 fun j hj => (HFX.out j hj).symm
                    have HXI := Lib.hid hx
                    clear hx
                    go_wp2_with (first | ((with_reducible show wpList _ _ _ (Oper.mk _ (Op.load 22 _) _ _ _ _ :: _) _ _); refine loadAR (off := i * 4) CX (by omega) rfl rfl rfl ?_))
                    have HFq : Hid ((fun j => hX (i * 4 + j)) = fun j => hX (i * 4 + j)) := rfl
                    refine (l2Row_any (fun j => hX (i * 4 + j)) _ HFV.out).mono ?_
                    rintro e w6 ⟨rfl, hb⟩
                    have K1 := K1.below hb K1.lt
                    have CX := CX.below hb
                    have HU : Hid (OwnsL 22 4 w6 w.heap.size (.slice (some ⟨gu, 0, none⟩) (insR r X I i).length cu) (insR r X I i)) := HU.out.below hb
                    have HB : Hid (Below w.heap.size w w6) := HB.out.trans (hb.mono HB.out.size)
                    clear hb
                    have iE : ∀ (w : World), (Op.equalIn 10000 22 (.agg (mk 4 (slid (fun j => hX (i * 4 + j)) 4).row)) (.agg (mk 4 r))).run Try.prog w = .ok (sameR (slid (fun j => hX (i * 4 + j)) 4).row r) w := fun w => eqR 9998 _ _ w
                    have HNI := Lib.hid (HIL.out i (by omega))
                    have HAI := Lib.hid (HIA.out i (by omega))
                    have HYT : Hid (sameR (slid (fun j => hX (i * 4 + j)) 4).row r = true → insR r X I (i + 1) = insL (lt 4) (insR r X I i) x) := fun q => by
                      rw [insR]; simp only [HXI.out]; rw [if_pos (by rw [HSL.out]; exact q)]
                    have HYF : Hid (sameR (slid (fun j => hX (i * 4 + j)) 4).row r = false → insR r X I (i + 1) = insR r X I i) := fun q => by
                      rw [insR]; simp only [HXI.out]; rw [if_neg (by rw [HSL.out, q]; simp)]
                    generalize hR9 : (slid (fun j => hX (i * 4 + j)) 4).row = R9 at *
                    clear hR9
                    have z4 := zero4
                    have K9 := Blk.new w6 4 R9 22
                    have K1 := K1.alloc (.cells (mk 4 R9) 22)
                    have CX := CX.alloc (.cells (mk 4 R9) 22)
                    have HU : Hid (OwnsL 22 4 (w6.alloc (.cells (mk 4 R9) 22)) w.heap.size (.slice (some ⟨gu, 0, none⟩) (insR r X I i).length cu) (insR r X I i)) := HU.out.alloc _
                    have HB : Hid (Below w.heap.size w (w6.alloc (.cells (mk 4 R9) 22))) := HB.out.alloc HB.out.size _
                    cases hs : sameR R9 r with
                    | true =>
                      have Z := Lib.hid (HYT.out hs)
                      rw [hs] at iE
                      clear hs HYT HYF
                      go_wp2_with (first | ((with_reducible show wpList _ _ _ (Oper.mk _ (Op.load 22 _) _ _ _ _ :: _) _ _); refine loadR (K9) rfl rfl rfl ?_) | ((with_reducible show wpList _ _ _ (Oper.mk _ (Op.load 22 _) _ _ _ _ :: _) _ _); refine loadR (K1) rfl rfl rfl ?_) | ((with_reducible show wpList _ _ _ (Oper.mk _ (Op.load 22 _) _ _ _ _ :: _) _ _); refine loadAR (off := i * 4) CX (by omega) rfl rfl rfl ?_))
                      refine (l4Put_any gu cu w.heap.size (insR r X I i) (fun j => hX (i * 4 + j)) _ HAI.out HNI.out HU.out).mono ?_
                      rw [HCX.out, ← Z.out]
                      rintro e w7 ⟨g7, c7, rfl, ho7, hb⟩
                      have HU : Hid (OwnsL 22 4 w7 w.heap.size (.slice (some ⟨g7, 0, none⟩) (insR r X I (i + 1)).length c7) (insR r X I (i + 1))) := ho7
                      have K1 := K1.below hb K1.lt
                      have CX := CX.below hb
                      have HB : Hid (Below w.heap.size w w7) := HB.out.trans (hb.mono HB.out.size)
                      clear hb ho7
                      go_wp2_with fail
                      go_roundg gi2
                      case rel => exact ⟨i + 1, _, by omega, by go_num, rfl, ⟨g7, c7, rfl⟩, HU, CX, K1, HB⟩
                      case measure => omega
                    | false =>
                      have Z := Lib.hid (HYF.out hs)
                      rw [hs] at iE
                      clear hs HYT HYF
                      go_wp2_with (first | ((with_reducible show wpList _ _ _ (Oper.mk _ (Op.load 22 _) _ _ _ _ :: _) _ _); refine loadR (K9) rfl rfl rfl ?_) | ((with_reducible show wpList _ _ _ (Oper.mk _ (Op.load 22 _) _ _ _ _ :: _) _ _); refine loadR (K1) rfl rfl rfl ?_))
                      go_roundg gi2
                      case rel => exact ⟨i + 1, _, by omega, by go_num, rfl, ⟨gu, cu, by rw [Z.out]⟩, by rw [Z.out]; exact HU, CX, K1, HB⟩
                      case measure => omega
end Go.Proofs.Ytphkidkkcknnmaa
