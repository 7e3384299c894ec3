/-
  The contract of the reference's l6Sorted: boards put to their places, one after the other, but for one. The conditions: none is there twice, and they are at most 50625.
-/
import Derived.Test.YtphkidkkcknnmaaSpecAll
import Derived.Test.YtphkidkkcknnmaaBefore
namespace Go.Proofs.Ytphkidkkcknnmaa
open Go.RowKit Plain
attribute [local go_sem] Oper.semAt_some
set_option linter.unusedVariables false
set_option linter.unusedSimpArgs false

theorem wp_build0d {P : Program} {w : World} {o : Oper} {a : Act} {K : Act → World → Prop} {Q : Exit → Act → World → Prop} (d : Tmp) (t e : TypeId) (ho : o.op = .buildSlice t 0 #[]) (hd : o.dst = some d) {ie : TypeInfo} {z : Value}
    (ht : P.underlying t = some (.slice e)) (hie : P.info? e = some ie) (hz : ie.zero = some z)
    (h : K (a.put (some d) (.slice (some ⟨w.heap.size, 0, none⟩) 0 0)) (w.alloc (.cells #[] e))) : o.wp P a w K Q := by
  rw [← hd] at h
  exact wp_build0 t e ho ht hie hz h

set_option maxHeartbeats 8000000 in
set_option maxRecDepth 20000 in
theorem l6Sorted_any (gs cs : Nat) (X : List (List Int)) (f : Nat → Int) (w : World) (ha : AllL 16 X) (hnd : X.Nodup) (hn : X.length ≤ 50625) (hc : CAt w gs (X.length * 16) (flatF X)) :
    Calls Try.prog 75 #[.slice (some ⟨gs, 0, none⟩) X.length cs, .agg (mk 16 f)] w fun e w' => ∃ g cap, e = .returned (.slice (some ⟨g, 0, none⟩) (insS X (cl 16 f) X.length).length cap) ∧
      OwnsL 28 16 w' w.heap.size (.slice (some ⟨g, 0, none⟩) (insS X (cl 16 f) X.length).length cap) (insS X (cl 16 f) X.length) ∧ Below w.heap.size w w' := by
  obtain ⟨i0, hi, hz0, hz1, hz2⟩ := info_parts infoB
  have K3 := (Blk.new w 16 f 28).alloc (.cells #[] 28)
  have HB := Lib.hid (((Below.refl w.heap.size w).alloc (Nat.le_refl _) (.cells (mk 16 f) 28)).alloc (by simp) (.cells #[] 28))
  have CX := (hc.alloc (.cells (mk 16 f) 28)).alloc (.cells #[] 28)
  have HO : Hid (OwnsL 28 16 ((w.alloc (.cells (mk 16 f) 28)).alloc (.cells #[] 28)) (w.heap.size + 1) (.slice (some ⟨w.heap.size + 1, 0, none⟩) 0 0) []) := by
    have := OwnsL.made (t := 28) (m := 16) (b := w.heap.size + 1) (w.alloc (.cells (mk 16 f) 28)) (by simp)
    simp only [World.size_alloc] at this
    exact this
  have HXA : Hid (∀ n, n < X.length → ∃ x, X[n]? = some x ∧ x.length = 16 ∧ ∀ c, c < 16 → flatF X (n * 16 + c) = fn x c) := fun n hn => ⟨_, List.getElem?_eq_getElem hn, ha _ (List.getElem_mem hn), fun c hc => flatF_at ha (List.getElem?_eq_getElem hn) hc⟩
  have HIA : Hid (∀ n, n ≤ X.length → AllL 16 (insS X (cl 16 f) n)) := fun n hn => insS_all ha _ hn
  have HIS : Hid (∀ n, n ≤ X.length → SS (lt 16) (insS X (cl 16 f) n)) := fun n hn => insS_ss ha _ n hn
  have HIL : Hid (∀ n, (insS X (cl 16 f) n).length ≤ n) := insS_len _
  have HIN : Hid (∀ n x, X[n]? = some x → x ∉ insS X (cl 16 f) n) := fun n x hx => insS_new hnd _ hx
  clear ha hnd hc
  have HW0 : Hid (∀ F : Nat → Int, sameB F f = true ↔ cl 16 F = cl 16 f) := fun F => by rw [sameB_iff, cl_inj]
  generalize hwv : cl 16 f = wv at *
  have HWV := Lib.hid hwv
  clear hwv
  generalize hNX : X.length = nX at *
  generalize hHX : flatF X = hX at *
  go_enter Try.func75, Try.ntmps75
  go_wp2_with fail
  generalize (w.alloc (.cells (mk 16 f) 28)).alloc (.cells #[] 28) = w1 at *
  go_loopg [5, 6] nX (fun gk s5 s6 wr => ∃ (i : Nat) (u : Value), i + gk = nX ∧ s6 = .int .i64 i ∧ u = s5 ∧ (∃ gg cap, u = .slice (some ⟨gg, 0, none⟩) (insS X wv i).length cap) ∧ Hid (OwnsL 28 16 wr (w.heap.size + 1) u (insS X wv i)) ∧ CAt wr gs (nX * 16) hX ∧ Blk wr w.heap.size 16 f 28 ∧ Hid (Below w.heap.size w wr))
  case atStart => exact ⟨0, _, by omega, rfl, rfl, ⟨_, _, rfl⟩, HO, CX, K3, HB⟩
  case round =>
    clear HO CX K3 HB
    obtain ⟨i, u, hig, rfl, rfl, ⟨gg, cap, hu⟩, HO, CX, K3, HB⟩ := hrel
    subst hu
    cases gk with
    | zero =>
      have hi9 : ¬ ((i : Int) < (nX : Int)) := by omega
      obtain rfl : i = nX := by omega
      go_wp2_with fail
      go_ret
      exact ⟨gg, cap, rfl, HO.out.wide (by omega), HB.out⟩
    | succ q1 =>
      have hi4 : (i : Int) < (nX : Int) := by omega
      have hi0 : (0 : Int) ≤ (i : Int) := by omega
      have hi9 : i < nX := by omega
      obtain ⟨x, hx, hx16, hxc⟩ := HXA.out i hi9
      have HFX : Hid (cl 16 (fun j => hX (i * 16 + j)) = x) := by show _ = _; rw [← cl_fn hx16, cl_inj]; exact hxc
      have HSM : Hid (sameB (fun j => hX (i * 16 + j)) f = true ↔ x = wv) := by rw [← HFX.out]; exact HW0.out _
      have HNI := Lib.hid (HIN.out i x hx)
      have HSK := Lib.hid (fun (e : x = wv) => insS_skip hx e)
      have HST := Lib.hid (fun (e : x ≠ wv) => insS_step hx e)
      have HLA := Lib.hid (HIA.out i (by omega))
      have HLS := Lib.hid (HIS.out i (by omega))
      have hml := HIL.out i
      clear hxc
      obtain ⟨_, _, e1, hcap, CO⟩ := KRow.of_list HLA.out HO.out
      cases e1
      generalize hL : insS X wv i = L at *
      generalize hM : L.length = m at *
      generalize hHO : flatF L = hO at *
      have HLX : Hid (∀ k y, L[k]? = some y → (lt 16 x y = lessB (fun j => hX (i * 16 + j)) (fun j => hO (k * 16 + j)))) := fun k y hy => by
        rw [← HFX.out, ← hHO]
        unfold lt lessB
        rw [Bool.eq_iff_iff, decide_eq_true_iff, decide_eq_true_iff]
        exact lessN_congr (fn_cl _) fun j hj => (flatF_at HLA.out hy hj).symm
      have HGE : Hid (∀ k, k < m → ∃ y, L[k]? = some y) := fun k hk => ⟨_, List.getElem?_eq_getElem (by rw [hM]; exact hk)⟩
      have hgg := (HO.out.lt gg rfl).2
      have hgs := CX.1
      have iE : ∀ (w : World), (Op.equalIn 10000 28 (.agg (mk 16 fun j => hX (i * 16 + j))) (.agg (mk 16 f))).run Try.prog w = .ok (sameB (fun j => hX (i * 16 + j)) f) w := fun w => eqB 9996 _ _ w
      generalize hsm : sameB (fun j => hX (i * 16 + j)) f = sm at *
      clear hsm
      go_wp2_with fail
      refine wp_region_held_drew (S := fun W => CAt W gs (nX * 16) hX ∧ Blk W w.heap.size 16 f 28) (by kernel_rfl) (⟨CX.drew, K3.drew⟩) (fun hHeld => ?_)
      refine wpAnyH_take (i := 0) (oi := { dst := some 15, op := _, type := _, pos := _, after := _, guard := _ }) (v := .slice (some ⟨gs, 0, none⟩) nX cs) rfl (by kernel_rfl) (by kernel_rfl) (by kernel_rfl) (fun _ _ _ h => h) (Or.inl ⟨by rfl, by intro w hSw; clear hSw; go_simp; (try with_reducible rfl)⟩) (by assumption) ?_
      try simp only [Act.put, List.setIfInBounds_toArray, List.set_cons_zero, List.set_cons_succ]
      refine wpAnyH_take (i := 1) (oi := { dst := some 16, op := _, type := _, pos := _, after := _, guard := _ }) (v := .int .i64 (i : Int)) rfl (by kernel_rfl) (by kernel_rfl) (by kernel_rfl) (fun _ _ _ h => h) (Or.inl ⟨by rfl, by intro w hSw; clear hSw; go_simp; (try with_reducible rfl)⟩) (by assumption) ?_
      try simp only [Act.put, List.setIfInBounds_toArray, List.set_cons_zero, List.set_cons_succ]
      refine wpAnyH_take (i := 2) (oi := { dst := some 17, op := _, type := _, pos := _, after := _, guard := _ }) (v := .pointer (some ⟨gs, i * 16, none⟩)) rfl (by kernel_rfl) (by kernel_rfl) (by kernel_rfl) (fun _ _ _ h => h) (Or.inl ⟨by rfl, by intro w hSw; clear hSw; go_simp; (try with_reducible rfl)⟩) (by assumption) ?_
      try simp only [Act.put, List.setIfInBounds_toArray, List.set_cons_zero, List.set_cons_succ]
      refine wpAnyH_take (i := 3) (oi := { dst := some 18, op := _, type := _, pos := _, after := _, guard := _ }) (v := .agg (mk 16 fun j => hX (i * 16 + j))) rfl (by kernel_rfl) (by kernel_rfl) (by kernel_rfl) (fun _ _ _ h => h) (Or.inl ⟨by rfl, fun _ q => execAB q.1 (by omega) rfl rfl⟩) (by assumption) ?_
      try simp only [Act.put, List.setIfInBounds_toArray, List.set_cons_zero, List.set_cons_succ]
      refine wpAnyH_take (i := 4) (oi := { dst := some 19, op := _, type := _, pos := _, after := _, guard := _ }) (v := .agg (mk 16 f)) rfl (by kernel_rfl) (by kernel_rfl) (by kernel_rfl) (fun _ _ _ h => h) (Or.inl ⟨by rfl, fun _ q => execB q.2 rfl rfl⟩) (by assumption) ?_
      try simp only [Act.put, List.setIfInBounds_toArray, List.set_cons_zero, List.set_cons_succ]
      refine wpAnyH_take (i := 5) (oi := { dst := some 20, op := _, type := _, pos := _, after := _, guard := _ }) (v := .bool sm) rfl (by kernel_rfl) (by kernel_rfl) (by kernel_rfl) (fun _ _ _ h => h) (Or.inl ⟨by rfl, by intro W hSw; clear hSw; have iE2 := iE W; go_simp⟩) (by assumption) ?_
      try simp only [Act.put, List.setIfInBounds_toArray, List.set_cons_zero, List.set_cons_succ]
      refine wpAnyH_done (by kernel_rfl) ?_ _
      clear hHeld
      clear iE
      have CX : CAt wr.drew gs (nX * 16) hX := CX.drew
      have CO : CAt wr.drew gg (m * 16) hO := CO.drew
      have K3 : Blk wr.drew w.heap.size 16 f 28 := K3.drew
      have HB : Hid (Below w.heap.size w wr.drew) := HB.out.drew
      have HO : Hid (OwnsL 28 16 wr.drew (w.heap.size + 1) (.slice (some ⟨gg, 0, none⟩) m cap) L) := HO.out
      generalize wr.drew = wa at *
      cases sm with
      | true =>
        have HS : Hid (insS X wv (i + 1) = L) := HSK.out (HSM.out.1 rfl)
        go_wp2_with fail
        go_roundg q1
        case rel => exact ⟨i + 1, _, by omega, by go_num, rfl, ⟨gg, cap, by rw [HS.out, hM]⟩, by rw [HS.out]; exact HO, CX, K3, HB⟩
        case measure => omega
      | false =>
        have hne : x ≠ wv := fun e => by have := HSM.out.2 e; cases this
        have HINS : Hid (∀ k, plcL (lt 16) x L = k → insS X wv (i + 1) = L.take k ++ cl 16 (fun j => hX (i * 16 + j)) :: L.drop k) := fun k hk => by
          rw [HST.out hne, HFX.out]; exact ins_at HNI.out hk
        have HPB : Hid (∀ n, n ≤ m → (∀ j y, n ≤ j → L[j]? = some y → lt 16 x y = true) → (n = 0 ∨ ∃ y, L[n - 1]? = some y ∧ lt 16 x y = false) → plcL (lt 16) x L = n) := fun n hn h1 h2 => plc_back HLA.out hx16 HLS.out HNI.out (by rw [hM]; exact hn) h1 h2
        clear hne HSM HSK HST
        go_wp2_with fail
        go_loopg [7] m (fun gn s7 wr => gn ≤ m ∧ s7 = .int .i64 (gn : Nat) ∧ Hid (∀ j y, gn ≤ j → L[j]? = some y → lt 16 x y = true) ∧ Hid (OwnsL 28 16 wr (w.heap.size + 1) (.slice (some ⟨gg, 0, none⟩) m cap) L) ∧ CAt wr gs (nX * 16) hX ∧ CAt wr gg (m * 16) hO ∧ Blk wr w.heap.size 16 f 28 ∧ Hid (Below w.heap.size w wr))
        case atStart => exact ⟨Nat.le_refl _, rfl, fun j y hj hy => by have := (List.getElem?_eq_some_iff.1 hy).1; omega, HO, CX, CO, K3, HB⟩
        case round =>
          clear HO CX CO K3 HB
          obtain ⟨hgm, rfl, HJ, HO, CX, CO, K3, HB⟩ := hrel
          cases gk with
          | zero =>
            have HPL : Hid (plcL (lt 16) x L = 0) := HPB.out 0 (Nat.zero_le _) HJ.out (Or.inl rfl)
            go_wp2_with fail
            refine wp_region_held_drew (S := fun W => CAt W gs (nX * 16) hX ∧ CAt W gg (m * 16) hO) (by kernel_rfl) (⟨CX.drew, CO.drew⟩) (fun hHeld => ?_)
            refine wpAnyH_take (i := 0) (oi := { dst := some 23, op := _, type := _, pos := _, after := _, guard := _ }) (v := .int .i64 ((0 : Nat) : Int)) rfl (by kernel_rfl) (by kernel_rfl) (by kernel_rfl) (fun _ _ _ h => h) (Or.inl ⟨by rfl, by intro w hSw; clear hSw; go_simp; (try with_reducible rfl)⟩) (by assumption) ?_
            try simp only [Act.put, List.setIfInBounds_toArray, List.set_cons_zero, List.set_cons_succ]
            refine wpAnyH_take (i := 1) (oi := { dst := some 24, op := _, type := _, pos := _, after := _, guard := _ }) (v := .bool false) rfl (by kernel_rfl) (by kernel_rfl) (by kernel_rfl) (fun _ _ _ h => h) (Or.inl ⟨by rfl, by intro w hSw; clear hSw; go_simp; (try with_reducible rfl)⟩) (by assumption) ?_
            try simp only [Act.put, List.setIfInBounds_toArray, List.set_cons_zero, List.set_cons_succ]
            refine wpAnyH_take (i := 2) (oi := { dst := some 25, op := _, type := _, pos := _, after := _, guard := _ }) (v := .bool false) rfl (by kernel_rfl) (by kernel_rfl) (by kernel_rfl) (fun _ _ _ h => h) (Or.inl ⟨by rfl, by intro w hSw; clear hSw; go_simp; (try with_reducible rfl)⟩) (by assumption) ?_
            try simp only [Act.put, List.setIfInBounds_toArray, List.set_cons_zero, List.set_cons_succ]
            refine wpAnyH_take (i := 3) (oi := { dst := some 26, op := _, type := _, pos := _, after := _, guard := _ }) (v := undef) rfl (by kernel_rfl) (by kernel_rfl) (by kernel_rfl) (fun _ _ _ h => h) (Or.inr ⟨by rfl, rfl⟩) (by assumption) ?_
            try simp only [Act.put, List.setIfInBounds_toArray, List.set_cons_zero, List.set_cons_succ]
            refine wpAnyH_take (i := 4) (oi := { dst := some 27, op := _, type := _, pos := _, after := _, guard := _ }) (v := undef) rfl (by kernel_rfl) (by kernel_rfl) (by kernel_rfl) (fun _ _ _ h => h) (Or.inr ⟨by rfl, rfl⟩) (by assumption) ?_
            try simp only [Act.put, List.setIfInBounds_toArray, List.set_cons_zero, List.set_cons_succ]
            refine wpAnyH_take (i := 5) (oi := { dst := some 28, op := _, type := _, pos := _, after := _, guard := _ }) (v := undef) rfl (by kernel_rfl) (by kernel_rfl) (by kernel_rfl) (fun _ _ _ h => h) (Or.inr ⟨by rfl, rfl⟩) (by assumption) ?_
            try simp only [Act.put, List.setIfInBounds_toArray, List.set_cons_zero, List.set_cons_succ]
            refine wpAnyH_take (i := 6) (oi := { dst := some 29, op := _, type := _, pos := _, after := _, guard := _ }) (v := undef) rfl (by kernel_rfl) (by kernel_rfl) (by kernel_rfl) (fun _ _ _ h => h) (Or.inr ⟨by rfl, rfl⟩) (by assumption) ?_
            try simp only [Act.put, List.setIfInBounds_toArray, List.set_cons_zero, List.set_cons_succ]
            refine wpAnyH_take (i := 7) (oi := { dst := some 30, op := _, type := _, pos := _, after := _, guard := _ }) (v := undef) rfl (by kernel_rfl) (by kernel_rfl) (by kernel_rfl) (fun _ _ _ h => h) (Or.inr ⟨by rfl, rfl⟩) (by assumption) ?_
            try simp only [Act.put, List.setIfInBounds_toArray, List.set_cons_zero, List.set_cons_succ]
            refine wpAnyH_take (i := 8) (oi := { dst := some 31, op := _, type := _, pos := _, after := _, guard := _ }) (v := undef) rfl (by kernel_rfl) (by kernel_rfl) (by kernel_rfl) (fun _ _ _ h => h) (Or.inr ⟨by rfl, rfl⟩) (by assumption) ?_
            try simp only [Act.put, List.setIfInBounds_toArray, List.set_cons_zero, List.set_cons_succ]
            refine wpAnyH_take (i := 9) (oi := { dst := some 32, op := _, type := _, pos := _, after := _, guard := _ }) (v := undef) rfl (by kernel_rfl) (by kernel_rfl) (by kernel_rfl) (fun _ _ _ h => h) (Or.inr ⟨by rfl, rfl⟩) (by assumption) ?_
            try simp only [Act.put, List.setIfInBounds_toArray, List.set_cons_zero, List.set_cons_succ]
            refine wpAnyH_take (i := 10) (oi := { dst := some 33, op := _, type := _, pos := _, after := _, guard := _ }) (v := undef) rfl (by kernel_rfl) (by kernel_rfl) (by kernel_rfl) (fun _ _ _ h => h) (Or.inr ⟨by rfl, rfl⟩) (by assumption) ?_
            try simp only [Act.put, List.setIfInBounds_toArray, List.set_cons_zero, List.set_cons_succ]
            refine wpAnyH_take (i := 11) (oi := { dst := some 34, op := _, type := _, pos := _, after := _, guard := _ }) (v := undef) rfl (by kernel_rfl) (by kernel_rfl) (by kernel_rfl) (fun _ _ _ h => h) (Or.inr ⟨by rfl, rfl⟩) (by assumption) ?_
            try simp only [Act.put, List.setIfInBounds_toArray, List.set_cons_zero, List.set_cons_succ]
            refine wpAnyH_take (i := 12) (oi := { dst := some 35, op := _, type := _, pos := _, after := _, guard := _ }) (v := undef) rfl (by kernel_rfl) (by kernel_rfl) (by kernel_rfl) (fun _ _ _ h => h) (Or.inr ⟨by rfl, rfl⟩) (by assumption) ?_
            try simp only [Act.put, List.setIfInBounds_toArray, List.set_cons_zero, List.set_cons_succ]
            refine wpAnyH_take (i := 13) (oi := { dst := some 36, op := _, type := _, pos := _, after := _, guard := _ }) (v := .bool false) rfl (by kernel_rfl) (by kernel_rfl) (by kernel_rfl) (fun _ _ _ h => h) (Or.inl ⟨by rfl, by intro w hSw; clear hSw; go_simp; (try with_reducible rfl)⟩) (by assumption) ?_
            try simp only [Act.put, List.setIfInBounds_toArray, List.set_cons_zero, List.set_cons_succ]
            refine wpAnyH_done (by kernel_rfl) ?_ _
            clear hHeld
            have HO : Hid (OwnsL 28 16 wr.drew (w.heap.size + 1) (.slice (some ⟨gg, 0, none⟩) m cap) L) := HO.out
            have CX : CAt wr.drew gs (nX * 16) hX := CX.drew
            have CO : CAt wr.drew gg (m * 16) hO := CO.drew
            have K3 : Blk wr.drew w.heap.size 16 f 28 := K3.drew
            have HB : Hid (Below w.heap.size w wr.drew) := HB.out.drew
            generalize wr.drew = wb at *
            obtain ⟨F, hFF⟩ : ∃ F, F = fun j => hX (i * 16 + j) := ⟨_, rfl⟩
            have HFF : Hid ((fun j => hX (i * 16 + j)) = F) := hFF.symm
            rw [← hFF] at HINS
            clear hFF
            obtain ⟨k, hk0⟩ : ∃ k, k = 0 := ⟨0, rfl⟩
            rw [← hk0] at HPL
            have hkm : k ≤ m := by omega
            rw [show ((0 : Nat) : Int) = (k : Int) by rw [hk0]]
            clear hk0
            have hkc : ¬ (cap < k) := by omega
            have hnk : ¬ ((m : Int) < (k : Int)) := by omega
            obtain ⟨o, HO1, HO2⟩ : ∃ o, Hid (cap = k → o = 0) ∧ Hid (cap ≠ k → o = k * 16) := by
              by_cases hcc : cap = k
              · exact ⟨0, fun _ => rfl, fun q => absurd hcc q⟩
              · exact ⟨k * 16, fun q => absurd q hcc, fun _ => rfl⟩
            have HF : Hid ([] ++ (mk (k * 16) fun j => hO (0 + j)).toList ++ (mk (1 * 16) fun j => F (0 + j)).toList ++ (mk ((m - k) * 16) fun j => hO (o + j)).toList = (L.take k ++ cl 16 F :: L.drop k).flatten.map (Value.int .i64)) := by
              show _ = _
              have := add_flat HLA.out F (k := k) (o := o) (by omega) (by
                by_cases hcc : cap = k
                · exact Or.inl (by omega)
                · exact Or.inr (HO2.out hcc))
              rw [hM, hHO] at this
              exact this.symm
            have ho16 : o + (m - k) * 16 ≤ m * 16 := by
              by_cases hcc : cap = k
              · have := HO1.out hcc; omega
              · have := HO2.out hcc; omega
            go_wp2_with fail
            have A1 : CAt wb.drew gs (nX * 16) hX := CX.drew
            have A2 : CAt wb.drew gg (m * 16) hO := CO.drew
            have A3 : Blk wb.drew w.heap.size 16 f 28 := K3.drew
            have HW : Hid (Below w.heap.size w wb.drew) := HB.out.drew
            refine wp_region_held_drew (S := fun W => CAt W gs (nX * 16) hX ∧ CAt W gg (m * 16) hO) (by kernel_rfl) (⟨A1, A2⟩) (fun hHeld => ?_)
            generalize wb.drew = x0 at *
            obtain ⟨bN, hbN⟩ : ∃ b, b = x0.heap.size := ⟨_, rfl⟩
            have hgsN : gs < bN := by have := A1.1; omega
            have hggN : gg < bN := by have := A2.1; omega
            have hwN : w.heap.size < bN := by have := A3.lt; omega
            have hxx0 : bN ≤ x0.heap.size := by omega
            clear hbN CX CO K3 HB HO
            refine wpAnyH_take (i := 1) (oi := { dst := some 40, op := _, type := _, pos := _, after := _, guard := _ }) (v := .slice (some ⟨gg, 0, none⟩) m cap) rfl (by kernel_rfl) (by kernel_rfl) (by kernel_rfl) (fun _ _ _ h => h) (Or.inl ⟨by rfl, by intro w hSw; clear hSw; go_simp; (try with_reducible rfl)⟩) (by assumption) ?_
            try simp only [Act.put, List.setIfInBounds_toArray, List.set_cons_zero, List.set_cons_succ]
            refine wpAnyH_take (i := 2) (oi := { dst := some 41, op := _, type := _, pos := _, after := _, guard := _ }) (v := .int .i64 (k : Int)) rfl (by kernel_rfl) (by kernel_rfl) (by kernel_rfl) (fun _ _ _ h => h) (Or.inl ⟨by rfl, by intro w hSw; clear hSw; go_simp; (try with_reducible rfl)⟩) (by assumption) ?_
            try simp only [Act.put, List.setIfInBounds_toArray, List.set_cons_zero, List.set_cons_succ]
            refine wpAnyH_take (i := 3) (oi := { dst := some 42, op := _, type := _, pos := _, after := _, guard := _ }) (v := .slice (some ⟨gg, 0, none⟩) k cap) rfl (by kernel_rfl) (by kernel_rfl) (by kernel_rfl) (fun _ _ _ h => h) (Or.inl ⟨by rfl, by intro w hSw; clear hSw; go_simp; (try with_reducible rfl)⟩) (by assumption) ?_
            try simp only [Act.put, List.setIfInBounds_toArray, List.set_cons_zero, List.set_cons_succ]
            refine wpAnyH_take (i := 5) (oi := { dst := some 44, op := _, type := _, pos := _, after := _, guard := _ }) (v := .slice (some ⟨gs, 0, none⟩) nX cs) rfl (by kernel_rfl) (by kernel_rfl) (by kernel_rfl) (fun _ _ _ h => h) (Or.inl ⟨by rfl, by intro w hSw; clear hSw; go_simp; (try with_reducible rfl)⟩) (by assumption) ?_
            try simp only [Act.put, List.setIfInBounds_toArray, List.set_cons_zero, List.set_cons_succ]
            refine wpAnyH_take (i := 6) (oi := { dst := some 45, op := _, type := _, pos := _, after := _, guard := _ }) (v := .int .i64 (i : Int)) rfl (by kernel_rfl) (by kernel_rfl) (by kernel_rfl) (fun _ _ _ h => h) (Or.inl ⟨by rfl, by intro w hSw; clear hSw; go_simp; (try with_reducible rfl)⟩) (by assumption) ?_
            try simp only [Act.put, List.setIfInBounds_toArray, List.set_cons_zero, List.set_cons_succ]
            refine wpAnyH_take (i := 7) (oi := { dst := some 46, op := _, type := _, pos := _, after := _, guard := _ }) (v := .pointer (some ⟨gs, i * 16, none⟩)) rfl (by kernel_rfl) (by kernel_rfl) (by kernel_rfl) (fun _ _ _ h => h) (Or.inl ⟨by rfl, by intro w hSw; clear hSw; go_simp; (try with_reducible rfl)⟩) (by assumption) ?_
            try simp only [Act.put, List.setIfInBounds_toArray, List.set_cons_zero, List.set_cons_succ]
            refine wpAnyH_take (i := 8) (oi := { dst := some 47, op := _, type := _, pos := _, after := _, guard := _ }) (v := .agg (mk 16 F)) rfl (by kernel_rfl) (by kernel_rfl) (by kernel_rfl) (fun _ _ _ h => h) (Or.inl ⟨by rfl, fun _ p => by rw [← HFF.out]; exact execAB p.1 (by omega) rfl rfl⟩) (by assumption) ?_
            try simp only [Act.put, List.setIfInBounds_toArray, List.set_cons_zero, List.set_cons_succ]
            refine wpAnyH_take (i := 11) (oi := { dst := some 50, op := _, type := _, pos := _, after := _, guard := _ }) (v := .slice (some ⟨gg, 0, none⟩) m cap) rfl (by kernel_rfl) (by kernel_rfl) (by kernel_rfl) (fun _ _ _ h => h) (Or.inl ⟨by rfl, by intro w hSw; clear hSw; go_simp; (try with_reducible rfl)⟩) (by assumption) ?_
            try simp only [Act.put, List.setIfInBounds_toArray, List.set_cons_zero, List.set_cons_succ]
            refine wpAnyH_take (i := 12) (oi := { dst := some 51, op := _, type := _, pos := _, after := _, guard := _ }) (v := .int .i64 (k : Int)) rfl (by kernel_rfl) (by kernel_rfl) (by kernel_rfl) (fun _ _ _ h => h) (Or.inl ⟨by rfl, by intro w hSw; clear hSw; go_simp; (try with_reducible rfl)⟩) (by assumption) ?_
            try simp only [Act.put, List.setIfInBounds_toArray, List.set_cons_zero, List.set_cons_succ]
            refine wpAnyH_take (i := 13) (oi := { dst := some 52, op := _, type := _, pos := _, after := _, guard := _ }) (v := .slice (some ⟨gg, o, none⟩) (m - k) (cap - k)) rfl (by kernel_rfl) (by kernel_rfl) (by kernel_rfl) (fun _ _ _ h => h) (Or.inl ⟨by rfl, by
                  intro W hSw
                  clear hSw
                  by_cases hcc : cap = k
                  · have hoo := HO1.out hcc
                    subst hoo
                    go_simp
                  · have hoo := HO2.out hcc
                    subst hoo
                    go_simp⟩) (by assumption) ?_
            try simp only [Act.put, List.setIfInBounds_toArray, List.set_cons_zero, List.set_cons_succ]
            clear HO1 HO2 hHeld
            refine wpAnyH_ready (rs := [0, 9]) (by kernel_rfl) (by simp) ?_
            refine AllReadyH.cons rfl (fun K hK => ?_) ?_
            · rw [if_pos (by rfl)]
              refine wp_build0d 39 48 28 rfl rfl Try.underlying48 hi hz0 ?_
              have R0 : (x0.alloc (.cells #[] 28)).ownsRow bN 28 16 (.slice (some ⟨x0.heap.size, 0, none⟩) 0 0) 0 [] := World.ownsRow_made (base := bN) (e := 28) (size := 16) x0 #[] 0 hxx0 (by decide) rfl
              have A1 := A1.alloc (.cells #[] 28)
              have A2 := A2.alloc (.cells #[] 28)
              have A3 := A3.alloc (.cells #[] 28)
              have HW : Hid (Below w.heap.size w (x0.alloc (.cells #[] 28))) := HW.out.alloc HW.out.size _
              have hxx1 : bN ≤ (x0.alloc (.cells #[] 28)).heap.size := by simp; omega
              have HB0 : Hid (x0.heap.size < (x0.alloc (.cells #[] 28)).heap.size) := by show _ < _; simp
              generalize x0.alloc (.cells #[] 28) = x1 at *
              generalize x0.heap.size = b0 at *
              refine hK.out _ _ ⟨A1, A2⟩ (fun hHeld => ?_)
              clear hK K hHeld
              try simp only [Act.put, List.setIfInBounds_toArray, List.set_cons_zero, List.set_cons_succ]
              refine wpAnyH_ready (rs := [4, 9]) (by kernel_rfl) (by simp) ?_
              refine AllReadyH.cons rfl (fun K hK => ?_) ?_
              · rw [if_pos (by rfl)]
                refine wp_app (v := .slice (some ⟨b0, 0, none⟩) 0 0) _ _ 48 rfl bN 28 i0 _ 16 128 Try.underlying48 hi hz0 hz1 hz2 rfl (by decide) rfl R0 gg 0 k cap hO (m * 16) rfl A2 (by omega) (by unfold maxLen; omega) (by omega) hxx1 ?_
                intro v1 x2 R1 hbl hgr
                have A1 := A1.low hbl hgsN
                have A2 := A2.low hbl hggN
                have A3 := A3.below hbl hwN
                have HW : Hid (Below w.heap.size w x2) := HW.out.trans (hbl.mono (by omega))
                have hxx2 : bN ≤ x2.heap.size := Nat.le_trans hxx1 hgr.size
                have HV1 : Hid (∀ b, v1.ownBlock = some b → b < x2.heap.size) := fun b e => (R1.lt b e).2
                clear hbl hgr R0
                have R0 := R1
                clear R1
                refine hK.out _ _ ⟨A1, A2⟩ (fun hHeld => ?_)
                clear hK K hHeld
                try simp only [Act.put, List.setIfInBounds_toArray, List.set_cons_zero, List.set_cons_succ]
                refine wpAnyH_ready (rs := [9]) (by kernel_rfl) (by simp) ?_
                refine AllReadyH.cons rfl (fun K hK => ?_) AllReadyH.nil
                rw [if_pos (by rfl)]
                refine wp_buildBd 48 _ rfl rfl (f := F) rfl ?_
                have K9 := Blk.new x2 16 F 28
                have R0 : (x2.alloc (.cells (mk 16 F) 28)).ownsRow bN 28 16 v1 (0 + k) ([] ++ (mk (k * 16) fun j => hO (0 + j)).toList) := World.ownsRow.alloc R0 _
                have A1 := A1.alloc (.cells (mk 16 F) 28)
                have A2 := A2.alloc (.cells (mk 16 F) 28)
                have A3 := A3.alloc (.cells (mk 16 F) 28)
                have HW : Hid (Below w.heap.size w (x2.alloc (.cells (mk 16 F) 28))) := HW.out.alloc HW.out.size _
                have hxx3 : bN ≤ (x2.alloc (.cells (mk 16 F) 28)).heap.size := by simp; omega
                have H9 : Hid (x2.heap.size < (x2.alloc (.cells (mk 16 F) 28)).heap.size ∧ bN ≤ x2.heap.size) := by show _ ∧ _; simp; omega
                have HN9 : Hid (v1.ownBlock ≠ some x2.heap.size) := by show _ ≠ _; intro e; have := HV1.out _ e; omega
                generalize x2.alloc (.cells (mk 16 F) 28) = x3 at *
                generalize x2.heap.size = b9 at *
                refine hK.out _ _ ⟨A1, A2⟩ (fun hHeld => ?_)
                clear hK K hHeld
                try simp only [Act.put, List.setIfInBounds_toArray, List.set_cons_zero, List.set_cons_succ]
                refine wpAnyH_ready (rs := [10]) (by kernel_rfl) (by simp) ?_
                refine AllReadyH.cons rfl (fun K hK => ?_) AllReadyH.nil
                rw [if_pos (by rfl)]
                refine wp_app (v := v1) _ _ 48 rfl bN 28 i0 _ 16 128 Try.underlying48 hi hz0 hz1 hz2 rfl (by decide) rfl R0 b9 0 1 1 F 16 rfl K9.at (by omega) (by unfold maxLen; omega) (by omega) hxx3 ?_
                intro v2 x4 R1 hbl hgr
                have A1 := A1.low hbl hgsN
                have A2 := A2.low hbl hggN
                have A3 := A3.below hbl hwN
                have HW : Hid (Below w.heap.size w x4) := HW.out.trans (hbl.mono (by omega))
                have hxx4 : bN ≤ x4.heap.size := Nat.le_trans hxx3 hgr.size
                clear hbl hgr R0 K9
                have R0 := R1
                clear R1
                refine hK.out _ _ ⟨A1, A2⟩ (fun hHeld => ?_)
                clear hK K hHeld
                try simp only [Act.put, List.setIfInBounds_toArray, List.set_cons_zero, List.set_cons_succ]
                refine wpAnyH_ready (rs := [14]) (by kernel_rfl) (by simp) ?_
                refine AllReadyH.cons rfl (fun K hK => ?_) AllReadyH.nil
                rw [if_pos (by rfl)]
                refine wp_app (v := v2) _ _ 48 rfl bN 28 i0 _ 16 128 Try.underlying48 hi hz0 hz1 hz2 rfl (by decide) rfl R0 gg o (m - k) (cap - k) hO (m * 16) rfl A2 (by omega) (by unfold maxLen; omega) (by omega) hxx4 ?_
                intro v3 x5 R1 hbl hgr
                have A1 := A1.low hbl hgsN
                have A2 := A2.low hbl hggN
                have A3 := A3.below hbl hwN
                have HW : Hid (Below w.heap.size w x5) := HW.out.trans (hbl.mono (by omega))
                clear hbl hgr R0
                have R0 := R1
                clear R1
                refine hK.out _ _ ⟨A1, A2⟩ (fun hHeld => ?_)
                clear hK K
                try simp only [Act.put, List.setIfInBounds_toArray, List.set_cons_zero, List.set_cons_succ]
                refine wpAnyH_take (i := 15) (oi := { dst := some 5, op := _, type := _, pos := _, after := _, guard := _ }) (v := v3) rfl (by kernel_rfl) (by kernel_rfl) (by kernel_rfl) (fun _ _ _ h => h) (Or.inl ⟨by rfl, by intro w hSw; clear hSw; go_simp; (try with_reducible rfl)⟩) (by assumption) ?_
                try simp only [Act.put, List.setIfInBounds_toArray, List.set_cons_zero, List.set_cons_succ]
                refine wpAnyH_done (by kernel_rfl) ?_ _
                clear hHeld
                rw [show 0 + k + 1 + (m - k) = m + 1 by omega, HF.out] at R0
                obtain ⟨g', cap', hv'⟩ := ownsRow_succ R0
                have HV := Lib.hid hv'
                have HR3 := Lib.hid R0
                have HIL : Hid (insS X wv (i + 1) = L.take k ++ cl 16 F :: L.drop k) := HINS.out k HPL.out
                have HLL : Hid ((insS X wv (i + 1)).length = m + 1) := by show _ = _; rw [HIL.out, List.length_append, List.length_cons, List.length_take, List.length_drop, hM]; omega
                have HO : Hid (OwnsL 28 16 x5 (w.heap.size + 1) v3 (insS X wv (i + 1))) := by
                  show OwnsL _ _ _ _ _ _
                  unfold OwnsL
                  rw [HLL.out, HIL.out]
                  exact ownsRow_wide HR3.out (by omega)
                clear hv' R0
                go_wp2_with fail
                go_roundg q1
                case rel => exact ⟨i + 1, _, by omega, by go_num, rfl, ⟨g', cap', by rw [HLL.out]; exact HV.out⟩, HO, A1, A3, HW⟩
                case measure => omega
              refine AllReadyH.cons rfl (fun K hK => ?_) AllReadyH.nil
              rw [if_pos (by rfl)]
              refine wp_buildBd 48 _ rfl rfl (f := F) rfl ?_
              have K9 := Blk.new x1 16 F 28
              have R0 : (x1.alloc (.cells (mk 16 F) 28)).ownsRow bN 28 16 (.slice (some ⟨b0, 0, none⟩) 0 0) 0 [] := World.ownsRow.alloc R0 _
              have A1 := A1.alloc (.cells (mk 16 F) 28)
              have A2 := A2.alloc (.cells (mk 16 F) 28)
              have A3 := A3.alloc (.cells (mk 16 F) 28)
              have HW : Hid (Below w.heap.size w (x1.alloc (.cells (mk 16 F) 28))) := HW.out.alloc HW.out.size _
              have hxx2 : bN ≤ (x1.alloc (.cells (mk 16 F) 28)).heap.size := by simp; omega
              have H9 : Hid (x1.heap.size < (x1.alloc (.cells (mk 16 F) 28)).heap.size ∧ bN ≤ x1.heap.size) := by show _ ∧ _; simp; omega
              have HN9 : Hid (b0 ≠ x1.heap.size) := by have := HB0.out; show _ ≠ _; omega
              generalize x1.alloc (.cells (mk 16 F) 28) = x2 at *
              generalize x1.heap.size = b9 at *
              refine hK.out _ _ ⟨A1, A2⟩ (fun hHeld => ?_)
              clear hK K hHeld
              try simp only [Act.put, List.setIfInBounds_toArray, List.set_cons_zero, List.set_cons_succ]
              refine wpAnyH_ready (rs := [4]) (by kernel_rfl) (by simp) ?_
              refine AllReadyH.cons rfl (fun K hK => ?_) AllReadyH.nil
              rw [if_pos (by rfl)]
              refine wp_app (v := .slice (some ⟨b0, 0, none⟩) 0 0) _ _ 48 rfl bN 28 i0 _ 16 128 Try.underlying48 hi hz0 hz1 hz2 rfl (by decide) rfl R0 gg 0 k cap hO (m * 16) rfl A2 (by omega) (by unfold maxLen; omega) (by omega) hxx2 ?_
              intro v1 x3 R1 hbl hgr
              have K9 := K9.grown hgr (by intro e; simp only [Value.ownBlock, Option.some.injEq] at e; exact HN9.out e.symm)
              clear HN9
              have A1 := A1.low hbl hgsN
              have A2 := A2.low hbl hggN
              have A3 := A3.below hbl hwN
              have HW : Hid (Below w.heap.size w x3) := HW.out.trans (hbl.mono (by omega))
              have hxx3 : bN ≤ x3.heap.size := Nat.le_trans hxx2 hgr.size
              have HV1 : Hid (∀ b, v1.ownBlock = some b → b < x3.heap.size) := fun b e => (R1.lt b e).2
              clear hbl hgr R0
              have R0 := R1
              clear R1
              refine hK.out _ _ ⟨A1, A2⟩ (fun hHeld => ?_)
              clear hK K hHeld
              try simp only [Act.put, List.setIfInBounds_toArray, List.set_cons_zero, List.set_cons_succ]
              refine wpAnyH_ready (rs := [10]) (by kernel_rfl) (by simp) ?_
              refine AllReadyH.cons rfl (fun K hK => ?_) AllReadyH.nil
              rw [if_pos (by rfl)]
              refine wp_app (v := v1) _ _ 48 rfl bN 28 i0 _ 16 128 Try.underlying48 hi hz0 hz1 hz2 rfl (by decide) rfl R0 b9 0 1 1 F 16 rfl K9.at (by omega) (by unfold maxLen; omega) (by omega) hxx3 ?_
              intro v2 x4 R1 hbl hgr
              have A1 := A1.low hbl hgsN
              have A2 := A2.low hbl hggN
              have A3 := A3.below hbl hwN
              have HW : Hid (Below w.heap.size w x4) := HW.out.trans (hbl.mono (by omega))
              have hxx4 : bN ≤ x4.heap.size := Nat.le_trans hxx3 hgr.size
              clear hbl hgr R0 K9
              have R0 := R1
              clear R1
              refine hK.out _ _ ⟨A1, A2⟩ (fun hHeld => ?_)
              clear hK K hHeld
              try simp only [Act.put, List.setIfInBounds_toArray, List.set_cons_zero, List.set_cons_succ]
              refine wpAnyH_ready (rs := [14]) (by kernel_rfl) (by simp) ?_
              refine AllReadyH.cons rfl (fun K hK => ?_) AllReadyH.nil
              rw [if_pos (by rfl)]
              refine wp_app (v := v2) _ _ 48 rfl bN 28 i0 _ 16 128 Try.underlying48 hi hz0 hz1 hz2 rfl (by decide) rfl R0 gg o (m - k) (cap - k) hO (m * 16) rfl A2 (by omega) (by unfold maxLen; omega) (by omega) hxx4 ?_
              intro v3 x5 R1 hbl hgr
              have A1 := A1.low hbl hgsN
              have A2 := A2.low hbl hggN
              have A3 := A3.below hbl hwN
              have HW : Hid (Below w.heap.size w x5) := HW.out.trans (hbl.mono (by omega))
              clear hbl hgr R0
              have R0 := R1
              clear R1
              refine hK.out _ _ ⟨A1, A2⟩ (fun hHeld => ?_)
              clear hK K
              try simp only [Act.put, List.setIfInBounds_toArray, List.set_cons_zero, List.set_cons_succ]
              refine wpAnyH_take (i := 15) (oi := { dst := some 5, op := _, type := _, pos := _, after := _, guard := _ }) (v := v3) rfl (by kernel_rfl) (by kernel_rfl) (by kernel_rfl) (fun _ _ _ h => h) (Or.inl ⟨by rfl, by intro w hSw; clear hSw; go_simp; (try with_reducible rfl)⟩) (by assumption) ?_
              try simp only [Act.put, List.setIfInBounds_toArray, List.set_cons_zero, List.set_cons_succ]
              refine wpAnyH_done (by kernel_rfl) ?_ _
              clear hHeld
              rw [show 0 + k + 1 + (m - k) = m + 1 by omega, HF.out] at R0
              obtain ⟨g', cap', hv'⟩ := ownsRow_succ R0
              have HV := Lib.hid hv'
              have HR3 := Lib.hid R0
              have HIL : Hid (insS X wv (i + 1) = L.take k ++ cl 16 F :: L.drop k) := HINS.out k HPL.out
              have HLL : Hid ((insS X wv (i + 1)).length = m + 1) := by show _ = _; rw [HIL.out, List.length_append, List.length_cons, List.length_take, List.length_drop, hM]; omega
              have HO : Hid (OwnsL 28 16 x5 (w.heap.size + 1) v3 (insS X wv (i + 1))) := by
                show OwnsL _ _ _ _ _ _
                unfold OwnsL
                rw [HLL.out, HIL.out]
                exact ownsRow_wide HR3.out (by omega)
              clear hv' R0
              go_wp2_with fail
              go_roundg q1
              case rel => exact ⟨i + 1, _, by omega, by go_num, rfl, ⟨g', cap', by rw [HLL.out]; exact HV.out⟩, HO, A1, A3, HW⟩
              case measure => omega
            refine AllReadyH.cons rfl (fun K hK => ?_) AllReadyH.nil
            rw [if_pos (by rfl)]
            refine wp_buildBd 48 _ rfl rfl (f := F) rfl ?_
            have K9 := Blk.new x0 16 F 28
            have A1 := A1.alloc (.cells (mk 16 F) 28)
            have A2 := A2.alloc (.cells (mk 16 F) 28)
            have A3 := A3.alloc (.cells (mk 16 F) 28)
            have HW : Hid (Below w.heap.size w (x0.alloc (.cells (mk 16 F) 28))) := HW.out.alloc HW.out.size _
            have hxx1 : bN ≤ (x0.alloc (.cells (mk 16 F) 28)).heap.size := by simp; omega
            have H9 : Hid (x0.heap.size < (x0.alloc (.cells (mk 16 F) 28)).heap.size ∧ bN ≤ x0.heap.size) := by show _ ∧ _; simp; omega
            generalize x0.alloc (.cells (mk 16 F) 28) = x1 at *
            generalize x0.heap.size = b9 at *
            refine hK.out _ _ ⟨A1, A2⟩ (fun hHeld => ?_)
            clear hK K hHeld
            try simp only [Act.put, List.setIfInBounds_toArray, List.set_cons_zero, List.set_cons_succ]
            refine wpAnyH_ready (rs := [0]) (by kernel_rfl) (by simp) ?_
            refine AllReadyH.cons rfl (fun K hK => ?_) AllReadyH.nil
            rw [if_pos (by rfl)]
            refine wp_build0d 39 48 28 rfl rfl Try.underlying48 hi hz0 ?_
            have R0 : (x1.alloc (.cells #[] 28)).ownsRow bN 28 16 (.slice (some ⟨x1.heap.size, 0, none⟩) 0 0) 0 [] := World.ownsRow_made (base := bN) (e := 28) (size := 16) x1 #[] 0 hxx1 (by decide) rfl
            have K9 := K9.alloc (.cells #[] 28)
            have HN9 : Hid (x1.heap.size ≠ b9) := by have := (K9.lt : b9 < _); have h0 := H9.out; show _ ≠ _; omega
            have A1 := A1.alloc (.cells #[] 28)
            have A2 := A2.alloc (.cells #[] 28)
            have A3 := A3.alloc (.cells #[] 28)
            have HW : Hid (Below w.heap.size w (x1.alloc (.cells #[] 28))) := HW.out.alloc HW.out.size _
            have hxx2 : bN ≤ (x1.alloc (.cells #[] 28)).heap.size := by simp; omega
            have H9b : Hid (b9 < (x1.alloc (.cells #[] 28)).heap.size ∧ bN ≤ b9) := ⟨K9.lt, H9.out.2⟩
            clear H9
            have H9 := H9b
            clear H9b
            have HB0 : Hid (x1.heap.size < (x1.alloc (.cells #[] 28)).heap.size) := by show _ < _; simp
            generalize x1.alloc (.cells #[] 28) = x2 at *
            generalize x1.heap.size = b0 at *
            refine hK.out _ _ ⟨A1, A2⟩ (fun hHeld => ?_)
            clear hK K hHeld
            try simp only [Act.put, List.setIfInBounds_toArray, List.set_cons_zero, List.set_cons_succ]
            refine wpAnyH_ready (rs := [4]) (by kernel_rfl) (by simp) ?_
            refine AllReadyH.cons rfl (fun K hK => ?_) AllReadyH.nil
            rw [if_pos (by rfl)]
            refine wp_app (v := .slice (some ⟨b0, 0, none⟩) 0 0) _ _ 48 rfl bN 28 i0 _ 16 128 Try.underlying48 hi hz0 hz1 hz2 rfl (by decide) rfl R0 gg 0 k cap hO (m * 16) rfl A2 (by omega) (by unfold maxLen; omega) (by omega) hxx2 ?_
            intro v1 x3 R1 hbl hgr
            have K9 := K9.grown hgr (by intro e; simp only [Value.ownBlock, Option.some.injEq] at e; exact HN9.out e.symm)
            clear HN9
            have A1 := A1.low hbl hgsN
            have A2 := A2.low hbl hggN
            have A3 := A3.below hbl hwN
            have HW : Hid (Below w.heap.size w x3) := HW.out.trans (hbl.mono (by omega))
            have hxx3 : bN ≤ x3.heap.size := Nat.le_trans hxx2 hgr.size
            have HV1 : Hid (∀ b, v1.ownBlock = some b → b < x3.heap.size) := fun b e => (R1.lt b e).2
            clear hbl hgr R0
            have R0 := R1
            clear R1
            refine hK.out _ _ ⟨A1, A2⟩ (fun hHeld => ?_)
            clear hK K hHeld
            try simp only [Act.put, List.setIfInBounds_toArray, List.set_cons_zero, List.set_cons_succ]
            refine wpAnyH_ready (rs := [10]) (by kernel_rfl) (by simp) ?_
            refine AllReadyH.cons rfl (fun K hK => ?_) AllReadyH.nil
            rw [if_pos (by rfl)]
            refine wp_app (v := v1) _ _ 48 rfl bN 28 i0 _ 16 128 Try.underlying48 hi hz0 hz1 hz2 rfl (by decide) rfl R0 b9 0 1 1 F 16 rfl K9.at (by omega) (by unfold maxLen; omega) (by omega) hxx3 ?_
            intro v2 x4 R1 hbl hgr
            have A1 := A1.low hbl hgsN
            have A2 := A2.low hbl hggN
            have A3 := A3.below hbl hwN
            have HW : Hid (Below w.heap.size w x4) := HW.out.trans (hbl.mono (by omega))
            have hxx4 : bN ≤ x4.heap.size := Nat.le_trans hxx3 hgr.size
            clear hbl hgr R0 K9
            have R0 := R1
            clear R1
            refine hK.out _ _ ⟨A1, A2⟩ (fun hHeld => ?_)
            clear hK K hHeld
            try simp only [Act.put, List.setIfInBounds_toArray, List.set_cons_zero, List.set_cons_succ]
            refine wpAnyH_ready (rs := [14]) (by kernel_rfl) (by simp) ?_
            refine AllReadyH.cons rfl (fun K hK => ?_) AllReadyH.nil
            rw [if_pos (by rfl)]
            refine wp_app (v := v2) _ _ 48 rfl bN 28 i0 _ 16 128 Try.underlying48 hi hz0 hz1 hz2 rfl (by decide) rfl R0 gg o (m - k) (cap - k) hO (m * 16) rfl A2 (by omega) (by unfold maxLen; omega) (by omega) hxx4 ?_
            intro v3 x5 R1 hbl hgr
            have A1 := A1.low hbl hgsN
            have A2 := A2.low hbl hggN
            have A3 := A3.below hbl hwN
            have HW : Hid (Below w.heap.size w x5) := HW.out.trans (hbl.mono (by omega))
            clear hbl hgr R0
            have R0 := R1
            clear R1
            refine hK.out _ _ ⟨A1, A2⟩ (fun hHeld => ?_)
            clear hK K
            try simp only [Act.put, List.setIfInBounds_toArray, List.set_cons_zero, List.set_cons_succ]
            refine wpAnyH_take (i := 15) (oi := { dst := some 5, op := _, type := _, pos := _, after := _, guard := _ }) (v := v3) rfl (by kernel_rfl) (by kernel_rfl) (by kernel_rfl) (fun _ _ _ h => h) (Or.inl ⟨by rfl, by intro w hSw; clear hSw; go_simp; (try with_reducible rfl)⟩) (by assumption) ?_
            try simp only [Act.put, List.setIfInBounds_toArray, List.set_cons_zero, List.set_cons_succ]
            refine wpAnyH_done (by kernel_rfl) ?_ _
            clear hHeld
            rw [show 0 + k + 1 + (m - k) = m + 1 by omega, HF.out] at R0
            obtain ⟨g', cap', hv'⟩ := ownsRow_succ R0
            have HV := Lib.hid hv'
            have HR3 := Lib.hid R0
            have HIL : Hid (insS X wv (i + 1) = L.take k ++ cl 16 F :: L.drop k) := HINS.out k HPL.out
            have HLL : Hid ((insS X wv (i + 1)).length = m + 1) := by show _ = _; rw [HIL.out, List.length_append, List.length_cons, List.length_take, List.length_drop, hM]; omega
            have HO : Hid (OwnsL 28 16 x5 (w.heap.size + 1) v3 (insS X wv (i + 1))) := by
              show OwnsL _ _ _ _ _ _
              unfold OwnsL
              rw [HLL.out, HIL.out]
              exact ownsRow_wide HR3.out (by omega)
            clear hv' R0
            go_wp2_with fail
            go_roundg q1
            case rel => exact ⟨i + 1, _, by omega, by go_num, rfl, ⟨g', cap', by rw [HLL.out]; exact HV.out⟩, HO, A1, A3, HW⟩
            case measure => omega
          | succ q =>
            have hq0 : (0 : Int) < ((q + 1 : Nat) : Int) := by omega
            have hqm : q < m := by omega
            have hqi : (q : Int) < (m : Int) := by omega
            have hqi0 : (0 : Int) ≤ (q : Int) := by omega
            have hwq : IntKind.i64.wrap (q : Int) = (q : Int) := IntWalk.i64_in _ (by omega)
            have hw : IntKind.i64.wrap (((q + 1 : Nat) : Int) - 1) = (q : Int) := by rw [IntWalk.i64_in _ (by omega)]; omega
            obtain ⟨y, hy⟩ := HGE.out q hqm
            have HY := Lib.hid hy
            have HLY := Lib.hid (HLX.out q y hy)
            clear hy
            go_wp2_with fail
            refine wp_region_held_drew (S := fun W => CAt W gs (nX * 16) hX ∧ CAt W gg (m * 16) hO) (by kernel_rfl) (⟨CX.drew, CO.drew⟩) (fun hHeld => ?_)
            have CX : CAt wr.drew gs (nX * 16) hX := CX.drew
            have CO : CAt wr.drew gg (m * 16) hO := CO.drew
            have K3 : Blk wr.drew w.heap.size 16 f 28 := K3.drew
            have HB : Hid (Below w.heap.size w wr.drew) := HB.out.drew
            have HO : Hid (OwnsL 28 16 wr.drew (w.heap.size + 1) (.slice (some ⟨gg, 0, none⟩) m cap) L) := HO.out
            generalize wr.drew = x0 at *
            refine wpAnyH_take (i := 0) (oi := { dst := some 23, op := _, type := _, pos := _, after := _, guard := _ }) (v := .int .i64 ((q + 1 : Nat) : Int)) rfl (by kernel_rfl) (by kernel_rfl) (by kernel_rfl) (fun _ _ _ h => h) (Or.inl ⟨by rfl, by intro w hSw; clear hSw; go_simp; (try with_reducible rfl)⟩) (by assumption) ?_
            try simp only [Act.put, List.setIfInBounds_toArray, List.set_cons_zero, List.set_cons_succ]
            refine wpAnyH_take (i := 1) (oi := { dst := some 24, op := _, type := _, pos := _, after := _, guard := _ }) (v := .bool true) rfl (by kernel_rfl) (by kernel_rfl) (by kernel_rfl) (fun _ _ _ h => h) (Or.inl ⟨by rfl, by intro w hSw; clear hSw; go_simp; (try with_reducible rfl)⟩) (by assumption) ?_
            try simp only [Act.put, List.setIfInBounds_toArray, List.set_cons_zero, List.set_cons_succ]
            refine wpAnyH_take (i := 2) (oi := { dst := some 25, op := _, type := _, pos := _, after := _, guard := _ }) (v := .bool true) rfl (by kernel_rfl) (by kernel_rfl) (by kernel_rfl) (fun _ _ _ h => h) (Or.inl ⟨by rfl, by intro w hSw; clear hSw; go_simp; (try with_reducible rfl)⟩) (by assumption) ?_
            try simp only [Act.put, List.setIfInBounds_toArray, List.set_cons_zero, List.set_cons_succ]
            refine wpAnyH_take (i := 3) (oi := { dst := some 26, op := _, type := _, pos := _, after := _, guard := _ }) (v := .slice (some ⟨gs, 0, none⟩) nX cs) rfl (by kernel_rfl) (by kernel_rfl) (by kernel_rfl) (fun _ _ _ h => h) (Or.inl ⟨by rfl, by intro w hSw; clear hSw; go_simp; (try with_reducible rfl)⟩) (by assumption) ?_
            try simp only [Act.put, List.setIfInBounds_toArray, List.set_cons_zero, List.set_cons_succ]
            refine wpAnyH_take (i := 4) (oi := { dst := some 27, op := _, type := _, pos := _, after := _, guard := _ }) (v := .int .i64 (i : Int)) rfl (by kernel_rfl) (by kernel_rfl) (by kernel_rfl) (fun _ _ _ h => h) (Or.inl ⟨by rfl, by intro w hSw; clear hSw; go_simp; (try with_reducible rfl)⟩) (by assumption) ?_
            try simp only [Act.put, List.setIfInBounds_toArray, List.set_cons_zero, List.set_cons_succ]
            refine wpAnyH_take (i := 5) (oi := { dst := some 28, op := _, type := _, pos := _, after := _, guard := _ }) (v := .pointer (some ⟨gs, i * 16, none⟩)) rfl (by kernel_rfl) (by kernel_rfl) (by kernel_rfl) (fun _ _ _ h => h) (Or.inl ⟨by rfl, by intro w hSw; clear hSw; go_simp; (try with_reducible rfl)⟩) (by assumption) ?_
            try simp only [Act.put, List.setIfInBounds_toArray, List.set_cons_zero, List.set_cons_succ]
            refine wpAnyH_take (i := 6) (oi := { dst := some 29, op := _, type := _, pos := _, after := _, guard := _ }) (v := .agg (mk 16 fun j => hX (i * 16 + j))) rfl (by kernel_rfl) (by kernel_rfl) (by kernel_rfl) (fun _ _ _ h => h) (Or.inl ⟨by rfl, fun _ p => execAB p.1 (by omega) rfl rfl⟩) (by assumption) ?_
            try simp only [Act.put, List.setIfInBounds_toArray, List.set_cons_zero, List.set_cons_succ]
            refine wpAnyH_take (i := 7) (oi := { dst := some 30, op := _, type := _, pos := _, after := _, guard := _ }) (v := .slice (some ⟨gg, 0, none⟩) m cap) rfl (by kernel_rfl) (by kernel_rfl) (by kernel_rfl) (fun _ _ _ h => h) (Or.inl ⟨by rfl, by intro w hSw; clear hSw; go_simp; (try with_reducible rfl)⟩) (by assumption) ?_
            try simp only [Act.put, List.setIfInBounds_toArray, List.set_cons_zero, List.set_cons_succ]
            refine wpAnyH_take (i := 8) (oi := { dst := some 31, op := _, type := _, pos := _, after := _, guard := _ }) (v := .int .i64 ((q + 1 : Nat) : Int)) rfl (by kernel_rfl) (by kernel_rfl) (by kernel_rfl) (fun _ _ _ h => h) (Or.inl ⟨by rfl, by intro w hSw; clear hSw; go_simp; (try with_reducible rfl)⟩) (by assumption) ?_
            try simp only [Act.put, List.setIfInBounds_toArray, List.set_cons_zero, List.set_cons_succ]
            refine wpAnyH_take (i := 9) (oi := { dst := some 32, op := _, type := _, pos := _, after := _, guard := _ }) (v := .int .i64 (q : Int)) rfl (by kernel_rfl) (by kernel_rfl) (by kernel_rfl) (fun _ _ _ h => h) (Or.inl ⟨by rfl, by intro w hSw; clear hSw; go_simp; (try with_reducible rfl)⟩) (by assumption) ?_
            try simp only [Act.put, List.setIfInBounds_toArray, List.set_cons_zero, List.set_cons_succ]
            refine wpAnyH_take (i := 10) (oi := { dst := some 33, op := _, type := _, pos := _, after := _, guard := _ }) (v := .pointer (some ⟨gg, q * 16, none⟩)) rfl (by kernel_rfl) (by kernel_rfl) (by kernel_rfl) (fun _ _ _ h => h) (Or.inl ⟨by rfl, by intro w hSw; clear hSw; go_simp; (try with_reducible rfl)⟩) (by assumption) ?_
            try simp only [Act.put, List.setIfInBounds_toArray, List.set_cons_zero, List.set_cons_succ]
            refine wpAnyH_take (i := 11) (oi := { dst := some 34, op := _, type := _, pos := _, after := _, guard := _ }) (v := .agg (mk 16 fun j => hO (q * 16 + j))) rfl (by kernel_rfl) (by kernel_rfl) (by kernel_rfl) (fun _ _ _ h => h) (Or.inl ⟨by rfl, fun _ p => execAB p.2 (by omega) rfl rfl⟩) (by assumption) ?_
            try simp only [Act.put, List.setIfInBounds_toArray, List.set_cons_zero, List.set_cons_succ]
            refine wpAnyH_ready (rs := [12]) (by kernel_rfl) (by simp) ?_
            refine AllReadyH.cons rfl (fun K hK => ?_) AllReadyH.nil
            go_simp
            refine (l2Before_any _ _ _).mono ?_
            rintro e x1 ⟨rfl, hb6⟩
            have CX := CX.below hb6
            have CO := CO.below hb6
            have K3 := K3.below hb6 K3.lt
            have HO : Hid (OwnsL 28 16 x1 (w.heap.size + 1) (.slice (some ⟨gg, 0, none⟩) m cap) L) := HO.out.below hb6
            have HB : Hid (Below w.heap.size w x1) := HB.out.trans (hb6.mono HB.out.size)
            clear hb6 hHeld
            generalize hlb : lessB (fun j => hX (i * 16 + j)) (fun j => hO (q * 16 + j)) = lb at *
            have HLB := Lib.hid hlb
            clear hlb
            go_wp2_with fail
            refine hK.out _ _ ⟨CX, CO⟩ (fun hHeld => ?_)
            clear hK K
            try simp only [Act.put, List.setIfInBounds_toArray, List.set_cons_zero, List.set_cons_succ]
            refine wpAnyH_take (i := 13) (oi := { dst := some 36, op := _, type := _, pos := _, after := _, guard := _ }) (v := .bool lb) rfl (by kernel_rfl) (by kernel_rfl) (by kernel_rfl) (fun _ _ _ h => h) (Or.inl ⟨by rfl, by intro w hSw; clear hSw; go_simp; (try with_reducible rfl)⟩) (by assumption) ?_
            try simp only [Act.put, List.setIfInBounds_toArray, List.set_cons_zero, List.set_cons_succ]
            refine wpAnyH_done (by kernel_rfl) ?_ _
            clear hHeld
            cases lb with
            | true =>
              have HJ2 : Hid (∀ j y, q ≤ j → L[j]? = some y → lt 16 x y = true) := fun j z hj hz => by
                rcases (by omega : q + 1 ≤ j ∨ j = q) with p | rfl
                · exact HJ.out j z p hz
                · rw [HY.out] at hz; cases hz; exact HLY.out
              go_wp2_with fail
              go_roundg q
              case rel => exact ⟨by omega, by go_num, HJ2, HO, CX, CO, K3, HB⟩
              case measure => omega
            | false =>
              have HPL : Hid (plcL (lt 16) x L = q + 1) := HPB.out (q + 1) hgm HJ.out (Or.inr ⟨y, by rw [Nat.add_sub_cancel]; exact HY.out, HLY.out⟩)
              obtain ⟨F, hFF⟩ : ∃ F, F = fun j => hX (i * 16 + j) := ⟨_, rfl⟩
              have HFF : Hid ((fun j => hX (i * 16 + j)) = F) := hFF.symm
              rw [← hFF] at HINS
              clear hFF
              obtain ⟨k, hk0⟩ : ∃ k, k = q + 1 := ⟨_, rfl⟩
              rw [← hk0] at HPL
              have hkm : k ≤ m := by omega
              try rw [show ((q + 1 : Nat) : Int) = (k : Int) by rw [hk0]]
              try rw [show (q : Int) + 1 = (k : Int) by omega]
              clear hw hwq hk0
              have hkc : ¬ (cap < k) := by omega
              have hnk : ¬ ((m : Int) < (k : Int)) := by omega
              obtain ⟨o, HO1, HO2⟩ : ∃ o, Hid (cap = k → o = 0) ∧ Hid (cap ≠ k → o = k * 16) := by
                by_cases hcc : cap = k
                · exact ⟨0, fun _ => rfl, fun q => absurd hcc q⟩
                · exact ⟨k * 16, fun q => absurd q hcc, fun _ => rfl⟩
              have HF : Hid ([] ++ (mk (k * 16) fun j => hO (0 + j)).toList ++ (mk (1 * 16) fun j => F (0 + j)).toList ++ (mk ((m - k) * 16) fun j => hO (o + j)).toList = (L.take k ++ cl 16 F :: L.drop k).flatten.map (Value.int .i64)) := by
                show _ = _
                have := add_flat HLA.out F (k := k) (o := o) (by omega) (by
                  by_cases hcc : cap = k
                  · exact Or.inl (by omega)
                  · exact Or.inr (HO2.out hcc))
                rw [hM, hHO] at this
                exact this.symm
              have ho16 : o + (m - k) * 16 ≤ m * 16 := by
                by_cases hcc : cap = k
                · have := HO1.out hcc; omega
                · have := HO2.out hcc; omega
              go_wp2_with fail
              have A1 : CAt x1.drew gs (nX * 16) hX := CX.drew
              have A2 : CAt x1.drew gg (m * 16) hO := CO.drew
              have A3 : Blk x1.drew w.heap.size 16 f 28 := K3.drew
              have HW : Hid (Below w.heap.size w x1.drew) := HB.out.drew
              refine wp_region_held_drew (S := fun W => CAt W gs (nX * 16) hX ∧ CAt W gg (m * 16) hO) (by kernel_rfl) (⟨A1, A2⟩) (fun hHeld => ?_)
              generalize x1.drew = x0 at *
              obtain ⟨bN, hbN⟩ : ∃ b, b = x0.heap.size := ⟨_, rfl⟩
              have hgsN : gs < bN := by have := A1.1; omega
              have hggN : gg < bN := by have := A2.1; omega
              have hwN : w.heap.size < bN := by have := A3.lt; omega
              have hxx0 : bN ≤ x0.heap.size := by omega
              clear hbN CX CO K3 HB HO
              refine wpAnyH_take (i := 1) (oi := { dst := some 40, op := _, type := _, pos := _, after := _, guard := _ }) (v := .slice (some ⟨gg, 0, none⟩) m cap) rfl (by kernel_rfl) (by kernel_rfl) (by kernel_rfl) (fun _ _ _ h => h) (Or.inl ⟨by rfl, by intro w hSw; clear hSw; go_simp; (try with_reducible rfl)⟩) (by assumption) ?_
              try simp only [Act.put, List.setIfInBounds_toArray, List.set_cons_zero, List.set_cons_succ]
              refine wpAnyH_take (i := 2) (oi := { dst := some 41, op := _, type := _, pos := _, after := _, guard := _ }) (v := .int .i64 (k : Int)) rfl (by kernel_rfl) (by kernel_rfl) (by kernel_rfl) (fun _ _ _ h => h) (Or.inl ⟨by rfl, by intro w hSw; clear hSw; go_simp; (try with_reducible rfl)⟩) (by assumption) ?_
              try simp only [Act.put, List.setIfInBounds_toArray, List.set_cons_zero, List.set_cons_succ]
              refine wpAnyH_take (i := 3) (oi := { dst := some 42, op := _, type := _, pos := _, after := _, guard := _ }) (v := .slice (some ⟨gg, 0, none⟩) k cap) rfl (by kernel_rfl) (by kernel_rfl) (by kernel_rfl) (fun _ _ _ h => h) (Or.inl ⟨by rfl, by intro w hSw; clear hSw; go_simp; (try with_reducible rfl)⟩) (by assumption) ?_
              try simp only [Act.put, List.setIfInBounds_toArray, List.set_cons_zero, List.set_cons_succ]
              refine wpAnyH_take (i := 5) (oi := { dst := some 44, op := _, type := _, pos := _, after := _, guard := _ }) (v := .slice (some ⟨gs, 0, none⟩) nX cs) rfl (by kernel_rfl) (by kernel_rfl) (by kernel_rfl) (fun _ _ _ h => h) (Or.inl ⟨by rfl, by intro w hSw; clear hSw; go_simp; (try with_reducible rfl)⟩) (by assumption) ?_
              try simp only [Act.put, List.setIfInBounds_toArray, List.set_cons_zero, List.set_cons_succ]
              refine wpAnyH_take (i := 6) (oi := { dst := some 45, op := _, type := _, pos := _, after := _, guard := _ }) (v := .int .i64 (i : Int)) rfl (by kernel_rfl) (by kernel_rfl) (by kernel_rfl) (fun _ _ _ h => h) (Or.inl ⟨by rfl, by intro w hSw; clear hSw; go_simp; (try with_reducible rfl)⟩) (by assumption) ?_
              try simp only [Act.put, List.setIfInBounds_toArray, List.set_cons_zero, List.set_cons_succ]
              refine wpAnyH_take (i := 7) (oi := { dst := some 46, op := _, type := _, pos := _, after := _, guard := _ }) (v := .pointer (some ⟨gs, i * 16, none⟩)) rfl (by kernel_rfl) (by kernel_rfl) (by kernel_rfl) (fun _ _ _ h => h) (Or.inl ⟨by rfl, by intro w hSw; clear hSw; go_simp; (try with_reducible rfl)⟩) (by assumption) ?_
              try simp only [Act.put, List.setIfInBounds_toArray, List.set_cons_zero, List.set_cons_succ]
              refine wpAnyH_take (i := 8) (oi := { dst := some 47, op := _, type := _, pos := _, after := _, guard := _ }) (v := .agg (mk 16 F)) rfl (by kernel_rfl) (by kernel_rfl) (by kernel_rfl) (fun _ _ _ h => h) (Or.inl ⟨by rfl, fun _ p => by rw [← HFF.out]; exact execAB p.1 (by omega) rfl rfl⟩) (by assumption) ?_
              try simp only [Act.put, List.setIfInBounds_toArray, List.set_cons_zero, List.set_cons_succ]
              refine wpAnyH_take (i := 11) (oi := { dst := some 50, op := _, type := _, pos := _, after := _, guard := _ }) (v := .slice (some ⟨gg, 0, none⟩) m cap) rfl (by kernel_rfl) (by kernel_rfl) (by kernel_rfl) (fun _ _ _ h => h) (Or.inl ⟨by rfl, by intro w hSw; clear hSw; go_simp; (try with_reducible rfl)⟩) (by assumption) ?_
              try simp only [Act.put, List.setIfInBounds_toArray, List.set_cons_zero, List.set_cons_succ]
              refine wpAnyH_take (i := 12) (oi := { dst := some 51, op := _, type := _, pos := _, after := _, guard := _ }) (v := .int .i64 (k : Int)) rfl (by kernel_rfl) (by kernel_rfl) (by kernel_rfl) (fun _ _ _ h => h) (Or.inl ⟨by rfl, by intro w hSw; clear hSw; go_simp; (try with_reducible rfl)⟩) (by assumption) ?_
              try simp only [Act.put, List.setIfInBounds_toArray, List.set_cons_zero, List.set_cons_succ]
              refine wpAnyH_take (i := 13) (oi := { dst := some 52, op := _, type := _, pos := _, after := _, guard := _ }) (v := .slice (some ⟨gg, o, none⟩) (m - k) (cap - k)) rfl (by kernel_rfl) (by kernel_rfl) (by kernel_rfl) (fun _ _ _ h => h) (Or.inl ⟨by rfl, by
                    intro W hSw
                    clear hSw
                    by_cases hcc : cap = k
                    · have hoo := HO1.out hcc
                      subst hoo
                      go_simp
                    · have hoo := HO2.out hcc
                      subst hoo
                      go_simp⟩) (by assumption) ?_
              try simp only [Act.put, List.setIfInBounds_toArray, List.set_cons_zero, List.set_cons_succ]
              clear HO1 HO2 hHeld
              refine wpAnyH_ready (rs := [0, 9]) (by kernel_rfl) (by simp) ?_
              refine AllReadyH.cons rfl (fun K hK => ?_) ?_
              · rw [if_pos (by rfl)]
                refine wp_build0d 39 48 28 rfl rfl Try.underlying48 hi hz0 ?_
                have R0 : (x0.alloc (.cells #[] 28)).ownsRow bN 28 16 (.slice (some ⟨x0.heap.size, 0, none⟩) 0 0) 0 [] := World.ownsRow_made (base := bN) (e := 28) (size := 16) x0 #[] 0 hxx0 (by decide) rfl
                have A1 := A1.alloc (.cells #[] 28)
                have A2 := A2.alloc (.cells #[] 28)
                have A3 := A3.alloc (.cells #[] 28)
                have HW : Hid (Below w.heap.size w (x0.alloc (.cells #[] 28))) := HW.out.alloc HW.out.size _
                have hxx1 : bN ≤ (x0.alloc (.cells #[] 28)).heap.size := by simp; omega
                have HB0 : Hid (x0.heap.size < (x0.alloc (.cells #[] 28)).heap.size) := by show _ < _; simp
                generalize x0.alloc (.cells #[] 28) = x1 at *
                generalize x0.heap.size = b0 at *
                refine hK.out _ _ ⟨A1, A2⟩ (fun hHeld => ?_)
                clear hK K hHeld
                try simp only [Act.put, List.setIfInBounds_toArray, List.set_cons_zero, List.set_cons_succ]
                refine wpAnyH_ready (rs := [4, 9]) (by kernel_rfl) (by simp) ?_
                refine AllReadyH.cons rfl (fun K hK => ?_) ?_
                · rw [if_pos (by rfl)]
                  refine wp_app (v := .slice (some ⟨b0, 0, none⟩) 0 0) _ _ 48 rfl bN 28 i0 _ 16 128 Try.underlying48 hi hz0 hz1 hz2 rfl (by decide) rfl R0 gg 0 k cap hO (m * 16) rfl A2 (by omega) (by unfold maxLen; omega) (by omega) hxx1 ?_
                  intro v1 x2 R1 hbl hgr
                  have A1 := A1.low hbl hgsN
                  have A2 := A2.low hbl hggN
                  have A3 := A3.below hbl hwN
                  have HW : Hid (Below w.heap.size w x2) := HW.out.trans (hbl.mono (by omega))
                  have hxx2 : bN ≤ x2.heap.size := Nat.le_trans hxx1 hgr.size
                  have HV1 : Hid (∀ b, v1.ownBlock = some b → b < x2.heap.size) := fun b e => (R1.lt b e).2
                  clear hbl hgr R0
                  have R0 := R1
                  clear R1
                  refine hK.out _ _ ⟨A1, A2⟩ (fun hHeld => ?_)
                  clear hK K hHeld
                  try simp only [Act.put, List.setIfInBounds_toArray, List.set_cons_zero, List.set_cons_succ]
                  refine wpAnyH_ready (rs := [9]) (by kernel_rfl) (by simp) ?_
                  refine AllReadyH.cons rfl (fun K hK => ?_) AllReadyH.nil
                  rw [if_pos (by rfl)]
                  refine wp_buildBd 48 _ rfl rfl (f := F) rfl ?_
                  have K9 := Blk.new x2 16 F 28
                  have R0 : (x2.alloc (.cells (mk 16 F) 28)).ownsRow bN 28 16 v1 (0 + k) ([] ++ (mk (k * 16) fun j => hO (0 + j)).toList) := World.ownsRow.alloc R0 _
                  have A1 := A1.alloc (.cells (mk 16 F) 28)
                  have A2 := A2.alloc (.cells (mk 16 F) 28)
                  have A3 := A3.alloc (.cells (mk 16 F) 28)
                  have HW : Hid (Below w.heap.size w (x2.alloc (.cells (mk 16 F) 28))) := HW.out.alloc HW.out.size _
                  have hxx3 : bN ≤ (x2.alloc (.cells (mk 16 F) 28)).heap.size := by simp; omega
                  have H9 : Hid (x2.heap.size < (x2.alloc (.cells (mk 16 F) 28)).heap.size ∧ bN ≤ x2.heap.size) := by show _ ∧ _; simp; omega
                  have HN9 : Hid (v1.ownBlock ≠ some x2.heap.size) := by show _ ≠ _; intro e; have := HV1.out _ e; omega
                  generalize x2.alloc (.cells (mk 16 F) 28) = x3 at *
                  generalize x2.heap.size = b9 at *
                  refine hK.out _ _ ⟨A1, A2⟩ (fun hHeld => ?_)
                  clear hK K hHeld
                  try simp only [Act.put, List.setIfInBounds_toArray, List.set_cons_zero, List.set_cons_succ]
                  refine wpAnyH_ready (rs := [10]) (by kernel_rfl) (by simp) ?_
                  refine AllReadyH.cons rfl (fun K hK => ?_) AllReadyH.nil
                  rw [if_pos (by rfl)]
                  refine wp_app (v := v1) _ _ 48 rfl bN 28 i0 _ 16 128 Try.underlying48 hi hz0 hz1 hz2 rfl (by decide) rfl R0 b9 0 1 1 F 16 rfl K9.at (by omega) (by unfold maxLen; omega) (by omega) hxx3 ?_
                  intro v2 x4 R1 hbl hgr
                  have A1 := A1.low hbl hgsN
                  have A2 := A2.low hbl hggN
                  have A3 := A3.below hbl hwN
                  have HW : Hid (Below w.heap.size w x4) := HW.out.trans (hbl.mono (by omega))
                  have hxx4 : bN ≤ x4.heap.size := Nat.le_trans hxx3 hgr.size
                  clear hbl hgr R0 K9
                  have R0 := R1
                  clear R1
                  refine hK.out _ _ ⟨A1, A2⟩ (fun hHeld => ?_)
                  clear hK K hHeld
                  try simp only [Act.put, List.setIfInBounds_toArray, List.set_cons_zero, List.set_cons_succ]
                  refine wpAnyH_ready (rs := [14]) (by kernel_rfl) (by simp) ?_
                  refine AllReadyH.cons rfl (fun K hK => ?_) AllReadyH.nil
                  rw [if_pos (by rfl)]
                  refine wp_app (v := v2) _ _ 48 rfl bN 28 i0 _ 16 128 Try.underlying48 hi hz0 hz1 hz2 rfl (by decide) rfl R0 gg o (m - k) (cap - k) hO (m * 16) rfl A2 (by omega) (by unfold maxLen; omega) (by omega) hxx4 ?_
                  intro v3 x5 R1 hbl hgr
                  have A1 := A1.low hbl hgsN
                  have A2 := A2.low hbl hggN
                  have A3 := A3.below hbl hwN
                  have HW : Hid (Below w.heap.size w x5) := HW.out.trans (hbl.mono (by omega))
                  clear hbl hgr R0
                  have R0 := R1
                  clear R1
                  refine hK.out _ _ ⟨A1, A2⟩ (fun hHeld => ?_)
                  clear hK K
                  try simp only [Act.put, List.setIfInBounds_toArray, List.set_cons_zero, List.set_cons_succ]
                  refine wpAnyH_take (i := 15) (oi := { dst := some 5, op := _, type := _, pos := _, after := _, guard := _ }) (v := v3) rfl (by kernel_rfl) (by kernel_rfl) (by kernel_rfl) (fun _ _ _ h => h) (Or.inl ⟨by rfl, by intro w hSw; clear hSw; go_simp; (try with_reducible rfl)⟩) (by assumption) ?_
                  try simp only [Act.put, List.setIfInBounds_toArray, List.set_cons_zero, List.set_cons_succ]
                  refine wpAnyH_done (by kernel_rfl) ?_ _
                  clear hHeld
                  rw [show 0 + k + 1 + (m - k) = m + 1 by omega, HF.out] at R0
                  obtain ⟨g', cap', hv'⟩ := ownsRow_succ R0
                  have HV := Lib.hid hv'
                  have HR3 := Lib.hid R0
                  have HIL : Hid (insS X wv (i + 1) = L.take k ++ cl 16 F :: L.drop k) := HINS.out k HPL.out
                  have HLL : Hid ((insS X wv (i + 1)).length = m + 1) := by show _ = _; rw [HIL.out, List.length_append, List.length_cons, List.length_take, List.length_drop, hM]; omega
                  have HO : Hid (OwnsL 28 16 x5 (w.heap.size + 1) v3 (insS X wv (i + 1))) := by
                    show OwnsL _ _ _ _ _ _
                    unfold OwnsL
                    rw [HLL.out, HIL.out]
                    exact ownsRow_wide HR3.out (by omega)
                  clear hv' R0
                  go_wp2_with fail
                  go_roundg q1
                  case rel => exact ⟨i + 1, _, by omega, by go_num, rfl, ⟨g', cap', by rw [HLL.out]; exact HV.out⟩, HO, A1, A3, HW⟩
                  case measure => omega
                refine AllReadyH.cons rfl (fun K hK => ?_) AllReadyH.nil
                rw [if_pos (by rfl)]
                refine wp_buildBd 48 _ rfl rfl (f := F) rfl ?_
                have K9 := Blk.new x1 16 F 28
                have R0 : (x1.alloc (.cells (mk 16 F) 28)).ownsRow bN 28 16 (.slice (some ⟨b0, 0, none⟩) 0 0) 0 [] := World.ownsRow.alloc R0 _
                have A1 := A1.alloc (.cells (mk 16 F) 28)
                have A2 := A2.alloc (.cells (mk 16 F) 28)
                have A3 := A3.alloc (.cells (mk 16 F) 28)
                have HW : Hid (Below w.heap.size w (x1.alloc (.cells (mk 16 F) 28))) := HW.out.alloc HW.out.size _
                have hxx2 : bN ≤ (x1.alloc (.cells (mk 16 F) 28)).heap.size := by simp; omega
                have H9 : Hid (x1.heap.size < (x1.alloc (.cells (mk 16 F) 28)).heap.size ∧ bN ≤ x1.heap.size) := by show _ ∧ _; simp; omega
                have HN9 : Hid (b0 ≠ x1.heap.size) := by have := HB0.out; show _ ≠ _; omega
                generalize x1.alloc (.cells (mk 16 F) 28) = x2 at *
                generalize x1.heap.size = b9 at *
                refine hK.out _ _ ⟨A1, A2⟩ (fun hHeld => ?_)
                clear hK K hHeld
                try simp only [Act.put, List.setIfInBounds_toArray, List.set_cons_zero, List.set_cons_succ]
                refine wpAnyH_ready (rs := [4]) (by kernel_rfl) (by simp) ?_
                refine AllReadyH.cons rfl (fun K hK => ?_) AllReadyH.nil
                rw [if_pos (by rfl)]
                refine wp_app (v := .slice (some ⟨b0, 0, none⟩) 0 0) _ _ 48 rfl bN 28 i0 _ 16 128 Try.underlying48 hi hz0 hz1 hz2 rfl (by decide) rfl R0 gg 0 k cap hO (m * 16) rfl A2 (by omega) (by unfold maxLen; omega) (by omega) hxx2 ?_
                intro v1 x3 R1 hbl hgr
                have K9 := K9.grown hgr (by intro e; simp only [Value.ownBlock, Option.some.injEq] at e; exact HN9.out e.symm)
                clear HN9
                have A1 := A1.low hbl hgsN
                have A2 := A2.low hbl hggN
                have A3 := A3.below hbl hwN
                have HW : Hid (Below w.heap.size w x3) := HW.out.trans (hbl.mono (by omega))
                have hxx3 : bN ≤ x3.heap.size := Nat.le_trans hxx2 hgr.size
                have HV1 : Hid (∀ b, v1.ownBlock = some b → b < x3.heap.size) := fun b e => (R1.lt b e).2
                clear hbl hgr R0
                have R0 := R1
                clear R1
                refine hK.out _ _ ⟨A1, A2⟩ (fun hHeld => ?_)
                clear hK K hHeld
                try simp only [Act.put, List.setIfInBounds_toArray, List.set_cons_zero, List.set_cons_succ]
                refine wpAnyH_ready (rs := [10]) (by kernel_rfl) (by simp) ?_
                refine AllReadyH.cons rfl (fun K hK => ?_) AllReadyH.nil
                rw [if_pos (by rfl)]
                refine wp_app (v := v1) _ _ 48 rfl bN 28 i0 _ 16 128 Try.underlying48 hi hz0 hz1 hz2 rfl (by decide) rfl R0 b9 0 1 1 F 16 rfl K9.at (by omega) (by unfold maxLen; omega) (by omega) hxx3 ?_
                intro v2 x4 R1 hbl hgr
                have A1 := A1.low hbl hgsN
                have A2 := A2.low hbl hggN
                have A3 := A3.below hbl hwN
                have HW : Hid (Below w.heap.size w x4) := HW.out.trans (hbl.mono (by omega))
                have hxx4 : bN ≤ x4.heap.size := Nat.le_trans hxx3 hgr.size
                clear hbl hgr R0 K9
                have R0 := R1
                clear R1
                refine hK.out _ _ ⟨A1, A2⟩ (fun hHeld => ?_)
                clear hK K hHeld
                try simp only [Act.put, List.setIfInBounds_toArray, List.set_cons_zero, List.set_cons_succ]
                refine wpAnyH_ready (rs := [14]) (by kernel_rfl) (by simp) ?_
                refine AllReadyH.cons rfl (fun K hK => ?_) AllReadyH.nil
                rw [if_pos (by rfl)]
                refine wp_app (v := v2) _ _ 48 rfl bN 28 i0 _ 16 128 Try.underlying48 hi hz0 hz1 hz2 rfl (by decide) rfl R0 gg o (m - k) (cap - k) hO (m * 16) rfl A2 (by omega) (by unfold maxLen; omega) (by omega) hxx4 ?_
                intro v3 x5 R1 hbl hgr
                have A1 := A1.low hbl hgsN
                have A2 := A2.low hbl hggN
                have A3 := A3.below hbl hwN
                have HW : Hid (Below w.heap.size w x5) := HW.out.trans (hbl.mono (by omega))
                clear hbl hgr R0
                have R0 := R1
                clear R1
                refine hK.out _ _ ⟨A1, A2⟩ (fun hHeld => ?_)
                clear hK K
                try simp only [Act.put, List.setIfInBounds_toArray, List.set_cons_zero, List.set_cons_succ]
                refine wpAnyH_take (i := 15) (oi := { dst := some 5, op := _, type := _, pos := _, after := _, guard := _ }) (v := v3) rfl (by kernel_rfl) (by kernel_rfl) (by kernel_rfl) (fun _ _ _ h => h) (Or.inl ⟨by rfl, by intro w hSw; clear hSw; go_simp; (try with_reducible rfl)⟩) (by assumption) ?_
                try simp only [Act.put, List.setIfInBounds_toArray, List.set_cons_zero, List.set_cons_succ]
                refine wpAnyH_done (by kernel_rfl) ?_ _
                clear hHeld
                rw [show 0 + k + 1 + (m - k) = m + 1 by omega, HF.out] at R0
                obtain ⟨g', cap', hv'⟩ := ownsRow_succ R0
                have HV := Lib.hid hv'
                have HR3 := Lib.hid R0
                have HIL : Hid (insS X wv (i + 1) = L.take k ++ cl 16 F :: L.drop k) := HINS.out k HPL.out
                have HLL : Hid ((insS X wv (i + 1)).length = m + 1) := by show _ = _; rw [HIL.out, List.length_append, List.length_cons, List.length_take, List.length_drop, hM]; omega
                have HO : Hid (OwnsL 28 16 x5 (w.heap.size + 1) v3 (insS X wv (i + 1))) := by
                  show OwnsL _ _ _ _ _ _
                  unfold OwnsL
                  rw [HLL.out, HIL.out]
                  exact ownsRow_wide HR3.out (by omega)
                clear hv' R0
                go_wp2_with fail
                go_roundg q1
                case rel => exact ⟨i + 1, _, by omega, by go_num, rfl, ⟨g', cap', by rw [HLL.out]; exact HV.out⟩, HO, A1, A3, HW⟩
                case measure => omega
              refine AllReadyH.cons rfl (fun K hK => ?_) AllReadyH.nil
              rw [if_pos (by rfl)]
              refine wp_buildBd 48 _ rfl rfl (f := F) rfl ?_
              have K9 := Blk.new x0 16 F 28
              have A1 := A1.alloc (.cells (mk 16 F) 28)
              have A2 := A2.alloc (.cells (mk 16 F) 28)
              have A3 := A3.alloc (.cells (mk 16 F) 28)
              have HW : Hid (Below w.heap.size w (x0.alloc (.cells (mk 16 F) 28))) := HW.out.alloc HW.out.size _
              have hxx1 : bN ≤ (x0.alloc (.cells (mk 16 F) 28)).heap.size := by simp; omega
              have H9 : Hid (x0.heap.size < (x0.alloc (.cells (mk 16 F) 28)).heap.size ∧ bN ≤ x0.heap.size) := by show _ ∧ _; simp; omega
              generalize x0.alloc (.cells (mk 16 F) 28) = x1 at *
              generalize x0.heap.size = b9 at *
              refine hK.out _ _ ⟨A1, A2⟩ (fun hHeld => ?_)
              clear hK K hHeld
              try simp only [Act.put, List.setIfInBounds_toArray, List.set_cons_zero, List.set_cons_succ]
              refine wpAnyH_ready (rs := [0]) (by kernel_rfl) (by simp) ?_
              refine AllReadyH.cons rfl (fun K hK => ?_) AllReadyH.nil
              rw [if_pos (by rfl)]
              refine wp_build0d 39 48 28 rfl rfl Try.underlying48 hi hz0 ?_
              have R0 : (x1.alloc (.cells #[] 28)).ownsRow bN 28 16 (.slice (some ⟨x1.heap.size, 0, none⟩) 0 0) 0 [] := World.ownsRow_made (base := bN) (e := 28) (size := 16) x1 #[] 0 hxx1 (by decide) rfl
              have K9 := K9.alloc (.cells #[] 28)
              have HN9 : Hid (x1.heap.size ≠ b9) := by have := (K9.lt : b9 < _); have h0 := H9.out; show _ ≠ _; omega
              have A1 := A1.alloc (.cells #[] 28)
              have A2 := A2.alloc (.cells #[] 28)
              have A3 := A3.alloc (.cells #[] 28)
              have HW : Hid (Below w.heap.size w (x1.alloc (.cells #[] 28))) := HW.out.alloc HW.out.size _
              have hxx2 : bN ≤ (x1.alloc (.cells #[] 28)).heap.size := by simp; omega
              have H9b : Hid (b9 < (x1.alloc (.cells #[] 28)).heap.size ∧ bN ≤ b9) := ⟨K9.lt, H9.out.2⟩
              clear H9
              have H9 := H9b
              clear H9b
              have HB0 : Hid (x1.heap.size < (x1.alloc (.cells #[] 28)).heap.size) := by show _ < _; simp
              generalize x1.alloc (.cells #[] 28) = x2 at *
              generalize x1.heap.size = b0 at *
              refine hK.out _ _ ⟨A1, A2⟩ (fun hHeld => ?_)
              clear hK K hHeld
              try simp only [Act.put, List.setIfInBounds_toArray, List.set_cons_zero, List.set_cons_succ]
              refine wpAnyH_ready (rs := [4]) (by kernel_rfl) (by simp) ?_
              refine AllReadyH.cons rfl (fun K hK => ?_) AllReadyH.nil
              rw [if_pos (by rfl)]
              refine wp_app (v := .slice (some ⟨b0, 0, none⟩) 0 0) _ _ 48 rfl bN 28 i0 _ 16 128 Try.underlying48 hi hz0 hz1 hz2 rfl (by decide) rfl R0 gg 0 k cap hO (m * 16) rfl A2 (by omega) (by unfold maxLen; omega) (by omega) hxx2 ?_
              intro v1 x3 R1 hbl hgr
              have K9 := K9.grown hgr (by intro e; simp only [Value.ownBlock, Option.some.injEq] at e; exact HN9.out e.symm)
              clear HN9
              have A1 := A1.low hbl hgsN
              have A2 := A2.low hbl hggN
              have A3 := A3.below hbl hwN
              have HW : Hid (Below w.heap.size w x3) := HW.out.trans (hbl.mono (by omega))
              have hxx3 : bN ≤ x3.heap.size := Nat.le_trans hxx2 hgr.size
              have HV1 : Hid (∀ b, v1.ownBlock = some b → b < x3.heap.size) := fun b e => (R1.lt b e).2
              clear hbl hgr R0
              have R0 := R1
              clear R1
              refine hK.out _ _ ⟨A1, A2⟩ (fun hHeld => ?_)
              clear hK K hHeld
              try simp only [Act.put, List.setIfInBounds_toArray, List.set_cons_zero, List.set_cons_succ]
              refine wpAnyH_ready (rs := [10]) (by kernel_rfl) (by simp) ?_
              refine AllReadyH.cons rfl (fun K hK => ?_) AllReadyH.nil
              rw [if_pos (by rfl)]
              refine wp_app (v := v1) _ _ 48 rfl bN 28 i0 _ 16 128 Try.underlying48 hi hz0 hz1 hz2 rfl (by decide) rfl R0 b9 0 1 1 F 16 rfl K9.at (by omega) (by unfold maxLen; omega) (by omega) hxx3 ?_
              intro v2 x4 R1 hbl hgr
              have A1 := A1.low hbl hgsN
              have A2 := A2.low hbl hggN
              have A3 := A3.below hbl hwN
              have HW : Hid (Below w.heap.size w x4) := HW.out.trans (hbl.mono (by omega))
              have hxx4 : bN ≤ x4.heap.size := Nat.le_trans hxx3 hgr.size
              clear hbl hgr R0 K9
              have R0 := R1
              clear R1
              refine hK.out _ _ ⟨A1, A2⟩ (fun hHeld => ?_)
              clear hK K hHeld
              try simp only [Act.put, List.setIfInBounds_toArray, List.set_cons_zero, List.set_cons_succ]
              refine wpAnyH_ready (rs := [14]) (by kernel_rfl) (by simp) ?_
              refine AllReadyH.cons rfl (fun K hK => ?_) AllReadyH.nil
              rw [if_pos (by rfl)]
              refine wp_app (v := v2) _ _ 48 rfl bN 28 i0 _ 16 128 Try.underlying48 hi hz0 hz1 hz2 rfl (by decide) rfl R0 gg o (m - k) (cap - k) hO (m * 16) rfl A2 (by omega) (by unfold maxLen; omega) (by omega) hxx4 ?_
              intro v3 x5 R1 hbl hgr
              have A1 := A1.low hbl hgsN
              have A2 := A2.low hbl hggN
              have A3 := A3.below hbl hwN
              have HW : Hid (Below w.heap.size w x5) := HW.out.trans (hbl.mono (by omega))
              clear hbl hgr R0
              have R0 := R1
              clear R1
              refine hK.out _ _ ⟨A1, A2⟩ (fun hHeld => ?_)
              clear hK K
              try simp only [Act.put, List.setIfInBounds_toArray, List.set_cons_zero, List.set_cons_succ]
              refine wpAnyH_take (i := 15) (oi := { dst := some 5, op := _, type := _, pos := _, after := _, guard := _ }) (v := v3) rfl (by kernel_rfl) (by kernel_rfl) (by kernel_rfl) (fun _ _ _ h => h) (Or.inl ⟨by rfl, by intro w hSw; clear hSw; go_simp; (try with_reducible rfl)⟩) (by assumption) ?_
              try simp only [Act.put, List.setIfInBounds_toArray, List.set_cons_zero, List.set_cons_succ]
              refine wpAnyH_done (by kernel_rfl) ?_ _
              clear hHeld
              rw [show 0 + k + 1 + (m - k) = m + 1 by omega, HF.out] at R0
              obtain ⟨g', cap', hv'⟩ := ownsRow_succ R0
              have HV := Lib.hid hv'
              have HR3 := Lib.hid R0
              have HIL : Hid (insS X wv (i + 1) = L.take k ++ cl 16 F :: L.drop k) := HINS.out k HPL.out
              have HLL : Hid ((insS X wv (i + 1)).length = m + 1) := by show _ = _; rw [HIL.out, List.length_append, List.length_cons, List.length_take, List.length_drop, hM]; omega
              have HO : Hid (OwnsL 28 16 x5 (w.heap.size + 1) v3 (insS X wv (i + 1))) := by
                show OwnsL _ _ _ _ _ _
                unfold OwnsL
                rw [HLL.out, HIL.out]
                exact ownsRow_wide HR3.out (by omega)
              clear hv' R0
              go_wp2_with fail
              go_roundg q1
              case rel => exact ⟨i + 1, _, by omega, by go_num, rfl, ⟨g', cap', by rw [HLL.out]; exact HV.out⟩, HO, A1, A3, HW⟩
              case measure => omega
end Go.Proofs.Ytphkidkkcknnmaa
