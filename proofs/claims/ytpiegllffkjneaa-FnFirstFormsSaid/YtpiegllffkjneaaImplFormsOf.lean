/-
  The contract of the program's FormsOf, for every board.
-/
import Derived.Test.YtpiegllffkjneaaSortKit
import Derived.Test.YtpiegllffkjneaaImplForm2
import Derived.Test.YtpiegllffkjneaaPlainA
import Derived.Test.YtpiegllffkjneaaRowsKit
import Derived.Test.YtpiegllffkjneaaDrLess
import Derived.Test.YtpiegllffkjneaaOver
namespace Go.Proofs.Ytpiegllffkjneaa
open Go.RowKit Plain
attribute [local go_sem] store_new
set_option linter.unusedVariables false
set_option linter.unusedSimpArgs false

theorem frm8_vd {f : Nat → Int} (h : Vd f) : VdL 16 (frm8 f) := fun l hl => by
  obtain ⟨i, _, rfl⟩ := (frm8_mem f l).1 hl
  exact ⟨cl_len _ _, fun j hj => by rw [fn_cl _ j hj]; exact form_vd h i j hj⟩
theorem frm8_flat (f : Nat → Int) : (frm8 f).flatten.map (Value.int .i64) = (mk 128 (eightF f)).toList := by
  have ha : AllL 16 (frm8 f) := fun l hl => by obtain ⟨i, _, rfl⟩ := (frm8_mem f l).1 hl; exact cl_len _ _
  rw [flat_mk ha, frm8_len]
  congr 1
/-- An array of boards is a row of them that the call owns, and the other way. -/
theorem own_of_blk {w : World} {b : Nat} {f : Nat → Int} {t : TypeId} (base : Nat) (h : Blk w b 128 f t) (hb : base ≤ b) : w.ownsRow base t 16 (.slice (some ⟨b, 0, none⟩) 8 8) 8 (mk 128 f).toList :=
  ⟨by rw [mk_len], .inr ⟨b, 8, mk 128 f, rfl, hb, h, Nat.le_refl _, by decide, by rw [mk_size], by rw [List.take_of_length_le (by rw [mk_len]; exact Nat.le_refl _)]⟩⟩
theorem blk_of_own {w : World} {base b : Nat} {f : Nat → Int} {t : TypeId} (h : w.ownsRow base t 16 (.slice (some ⟨b, 0, none⟩) 8 8) 8 (mk 128 f).toList) : Blk w b 128 f t := by
  rcases h.2 with ⟨h2, _⟩ | ⟨g, cap, cur, h2, hb, hh, h3, h4, h5, h6⟩
  · cases h2
  · cases h2
    have : cur = mk 128 f := by
      rw [List.take_of_length_le (by simp [h5])] at h6
      exact Array.toList_inj.1 h6
    subst this
    exact hh

set_option maxHeartbeats 4000000 in
set_option maxRecDepth 100000 in
theorem implFormsOf_any (f : Nat → Int) (w : World) :
    Calls Try.prog 19 #[.agg (mk 16 f)] w fun e w' => ∃ g cap, e = .returned (.tuple #[.slice (some ⟨g, 0, none⟩) (foR f).length cap, .bool (vdO f)]) ∧
      OwnsL 27 16 w' w.heap.size (.slice (some ⟨g, 0, none⟩) (foR f).length cap) (foR f) ∧ Below w.heap.size w w' := by
  obtain ⟨i0, hi, hz0, hz1, hz2⟩ := info_parts infoB
  have z128 := zero128
  have K1 := Blk.new w 16 f 27
  have HB := Lib.hid ((Below.refl w.heap.size w).alloc (Nat.le_refl _) (.cells (mk 16 f) 27))
  by_cases hV : Vd f
  · rw [foR_yes hV, vdO_yes hV]
    have HV := Lib.hid hV
    have HFV := Lib.hid (frm8_vd hV)
    clear hV
    go_enter Try.func19, Try.ntmps19
    go_wp2_with ((with_reducible show wpList _ _ _ (Oper.mk _ (Op.load 27 _) _ _ _ _ :: _) _ _); refine loadB (K1) rfl rfl rfl ?_)
    refine (implBoard_yes _ _ HV.out).mono ?_
    rintro e w1 ⟨rfl, hb⟩
    have K1 := K1.below hb K1.lt
    have HB : Hid (Below w.heap.size w w1) := HB.out.trans (hb.mono HB.out.size)
    have hs1 := K1.lt
    clear hb
    go_wp2_with ((with_reducible show wpList _ _ _ (Oper.mk _ (Op.load 27 _) _ _ _ _ :: _) _ _); refine loadB (K1) rfl rfl rfl ?_)
    refine (eightForms_any f _).mono ?_
    rintro e w2 ⟨rfl, hb⟩
    have HB : Hid (Below w.heap.size w w2) := HB.out.trans (hb.mono HB.out.size)
    have hs2 : w.heap.size < w2.heap.size := Nat.lt_of_lt_of_le hs1 hb.size
    clear hb K1 hs1
    have K4 := Blk.new w2 128 (fun _ => 0) 102
    have sr := World.setRow_alloc_new
    go_wp2_with ((with_reducible show wpList _ _ _ (Oper.mk _ (Op.store 102 _ _) _ _ _ _ :: _) _ _); refine storeE (K4) rfl rfl rfl rfl ?_)
    clear z128 sr K4
    have K4 := Blk.new w2 128 (eightF f) 102
    have HB : Hid (Below w.heap.size w (w2.alloc (.cells (mk 128 (eightF f)) 102))) := HB.out.alloc HB.out.size _
    generalize w2.alloc (.cells (mk 128 (eightF f)) 102) = w3 at *
    have hcon := sortB_any (w.heap.size + 1) w2.heap.size 8 102 (frm8 f) w3 HFV.out (by rw [frm8_len]; omega) (by rw [frm8_len, frm8_flat]; exact own_of_blk _ K4 hs2)
    rw [frm8_len] at hcon
    refine hcon.mono ?_
    rintro e w4 ⟨rfl, hown, hbl⟩
    have HAL : Hid (AllL 16 (srtL 16 (frm8 f))) := srt_all HFV.out.all
    have HLN : Hid ((srtL 16 (frm8 f)).length = 8) := (srt_len 16 _).trans (frm8_len f)
    have K4 : Blk w4 w2.heap.size 128 (flatF (srtL 16 (frm8 f))) 102 := blk_of_own (base := w.heap.size + 1) (by
      rw [flat_mk HAL.out, HLN.out] at hown; exact hown)
    have HB : Hid (Below w.heap.size w w4) := HB.out.trans (hbl.mono (by omega))
    have HDD : Hid (dedN (srtL 16 (frm8 f)) 8 = insF f 8) := forms_ded f
    clear hown hbl hcon
    generalize hS8 : srtL 16 (frm8 f) = S8 at *
    generalize hF : flatF S8 = F at *
    generalize hb4 : w2.heap.size = b4 at *
    have HFF := Lib.hid hF
    clear hF hS8
    have HO : Hid (OwnsL 27 16 (w4.alloc (.cells #[] 27)) (w.heap.size + 1) (.slice (some ⟨w4.heap.size, 0, none⟩) 0 0) []) := OwnsL.made w4 (by have := K4.lt; omega)
    have HG0 : Hid (b4 ≠ w4.heap.size) := by have := K4.lt; show _ ≠ _; omega
    have K4 := K4.alloc (.cells #[] 27)
    have HB : Hid (Below w.heap.size w (w4.alloc (.cells #[] 27))) := HB.out.alloc HB.out.size _
    go_wp2_with ((with_reducible show wpList _ _ _ (Oper.mk _ (Op.load 102 _) _ _ _ _ :: _) _ _); refine loadE (K4) rfl rfl rfl ?_)
    go_loopg [5, 18] 8 (fun gk s5 s18 wr => ∃ (k : Nat) (v : Value), k + gk = 8 ∧ s18 = .int .i64 k ∧ v = s5 ∧ (∃ gg cap, v = .slice (some ⟨gg, 0, none⟩) (dedN S8 k).length cap) ∧ Hid (OwnsL 27 16 wr (w.heap.size + 1) v (dedN S8 k)) ∧ Hid (v.ownBlock ≠ some b4) ∧ Blk wr b4 128 F 102 ∧ Hid (Below w.heap.size w wr))
    case atStart => exact ⟨0, _, by omega, rfl, rfl, ⟨_, _, rfl⟩, HO, by show _ ≠ _; simp only [Value.ownBlock]; intro e; cases e; exact HG0.out rfl, K4, HB⟩
    case round =>
      obtain ⟨k, v, hkg, rfl, rfl, ⟨gg, cap, hv⟩, HO, HNE, K4, HB⟩ := hrel
      subst hv
      cases gk with
      | zero =>
        have hk : ¬ ((k : Int) < 8) := by omega
        obtain rfl : k = 8 := by omega
        clear hkg hk
        go_wp2_with fail
        go_ret2
        rw [← HDD.out]
        exact ⟨gg, cap, rfl, HO.out.wide (by omega), HB.out⟩
      | succ gk2 =>
        have hk8 : (k : Int) < 8 := by omega
        have hk9 : k < 8 := by omega
        obtain ⟨l, hkl⟩ : ∃ l, S8[k]? = some l := ⟨S8[k]'(by rw [HLN.out]; omega), List.getElem?_eq_getElem _⟩
        have HKL := Lib.hid hkl
        have HCL : Hid (cl 16 (fun c => F (k * 16 + c)) = l) := by
          show _ = _
          rw [← cl_fn (HAL.out l (List.mem_of_getElem? hkl)), cl_inj]
          intro i hi; rw [← HFF.out]; exact flatF_at HAL.out hkl hi
        clear hkl
        have iX : ∀ W, (Instr.index 102 (.agg (mk 128 F)) (.int .i64 (k : Int))).run Try.prog W = .ok (.agg (mk 16 (fun c => F (k * 16 + c)))) W := fun W => idxE F k hk9 W
        have z16 := zero16
        have sr := World.setRow_alloc_new
        have K7 := Blk.new wr 16 (fun _ => 0) 27
        go_wp2_with ((with_reducible show wpList _ _ _ (Oper.mk _ (Op.store 27 _ _) _ _ _ _ :: _) _ _); refine storeB (K7) rfl rfl rfl rfl ?_)
        clear z16 K7 iX sr
        rw [World.setRow_alloc_new]
        have K7 := Blk.new wr 16 (fun c => F (k * 16 + c)) 27
        have HO : Hid (OwnsL 27 16 (wr.alloc (.cells (mk 16 (fun c => F (k * 16 + c))) 27)) (w.heap.size + 1) (.slice (some ⟨gg, 0, none⟩) (dedN S8 k).length cap) (dedN S8 k)) := HO.out.alloc _
        have K4b := K4
        have K4 := K4.alloc (.cells (mk 16 (fun c => F (k * 16 + c))) 27)
        have HB : Hid (Below w.heap.size w (wr.alloc (.cells (mk 16 (fun c => F (k * 16 + c))) 27))) := HB.out.alloc HB.out.size _
        generalize hG : (fun c => F (k * 16 + c)) = G at *
        generalize hx7 : wr.heap.size = b7 at *
        have HX7 : Hid (b7 ≠ b4) := by show _ ≠ _; rw [← hx7]; have := K4b.lt; omega
        generalize wr.alloc (.cells (mk 16 G) 27) = x8 at *
        have HGF : Hid (∀ i, i < 16 → G i = F (k * 16 + i)) := by intro i _; rw [← hG]
        clear hx7
        cases k with
        | zero =>
          go_wp2_with fail
          refine wp_region_held_drew (S := fun W => Blk W b7 16 G 27 ∧ Blk W b4 128 F 102) (by kernel_rfl) (⟨K7.drew, K4.drew⟩) (fun hHeld => ?_)
          refine wpAnyH_take (i := 0) (oi := { dst := some 22, op := _, type := _, pos := _, after := _, guard := _ }) (v := .int .i64 (0 : Int)) rfl (by kernel_rfl) (by kernel_rfl) (by kernel_rfl) (fun _ _ _ h => h) (Or.inl ⟨by rfl, by intro w hSw; clear hSw; go_simp; (try with_reducible rfl)⟩) (by assumption) ?_
          try simp only [Act.put, List.setIfInBounds_toArray, List.set_cons_zero, List.set_cons_succ]
          refine wpAnyH_take (i := 1) (oi := { dst := some 23, op := _, type := _, pos := _, after := _, guard := _ }) (v := .bool true) rfl (by kernel_rfl) (by kernel_rfl) (by kernel_rfl) (fun _ _ _ h => h) (Or.inl ⟨by rfl, by intro w hSw; clear hSw; go_simp; (try with_reducible rfl)⟩) (by assumption) ?_
          try simp only [Act.put, List.setIfInBounds_toArray, List.set_cons_zero, List.set_cons_succ]
          refine wpAnyH_take (i := 2) (oi := { dst := some 24, op := _, type := _, pos := _, after := _, guard := _ }) (v := .bool true) rfl (by kernel_rfl) (by kernel_rfl) (by kernel_rfl) (fun _ _ _ h => h) (Or.inl ⟨by rfl, by intro w hSw; clear hSw; go_simp; (try with_reducible rfl)⟩) (by assumption) ?_
          try simp only [Act.put, List.setIfInBounds_toArray, List.set_cons_zero, List.set_cons_succ]
          refine wpAnyH_take (i := 3) (oi := { dst := some 25, op := _, type := _, pos := _, after := _, guard := _ }) (v := undef) rfl (by kernel_rfl) (by kernel_rfl) (by kernel_rfl) (fun _ _ _ h => h) (Or.inr ⟨by rfl, rfl⟩) (by assumption) ?_
          try simp only [Act.put, List.setIfInBounds_toArray, List.set_cons_zero, List.set_cons_succ]
          refine wpAnyH_take (i := 4) (oi := { dst := some 26, op := _, type := _, pos := _, after := _, guard := _ }) (v := undef) rfl (by kernel_rfl) (by kernel_rfl) (by kernel_rfl) (fun _ _ _ h => h) (Or.inr ⟨by rfl, rfl⟩) (by assumption) ?_
          try simp only [Act.put, List.setIfInBounds_toArray, List.set_cons_zero, List.set_cons_succ]
          refine wpAnyH_take (i := 5) (oi := { dst := some 27, op := _, type := _, pos := _, after := _, guard := _ }) (v := undef) rfl (by kernel_rfl) (by kernel_rfl) (by kernel_rfl) (fun _ _ _ h => h) (Or.inr ⟨by rfl, rfl⟩) (by assumption) ?_
          try simp only [Act.put, List.setIfInBounds_toArray, List.set_cons_zero, List.set_cons_succ]
          refine wpAnyH_take (i := 6) (oi := { dst := some 28, op := _, type := _, pos := _, after := _, guard := _ }) (v := undef) rfl (by kernel_rfl) (by kernel_rfl) (by kernel_rfl) (fun _ _ _ h => h) (Or.inr ⟨by rfl, rfl⟩) (by assumption) ?_
          try simp only [Act.put, List.setIfInBounds_toArray, List.set_cons_zero, List.set_cons_succ]
          refine wpAnyH_take (i := 7) (oi := { dst := some 29, op := _, type := _, pos := _, after := _, guard := _ }) (v := undef) rfl (by kernel_rfl) (by kernel_rfl) (by kernel_rfl) (fun _ _ _ h => h) (Or.inr ⟨by rfl, rfl⟩) (by assumption) ?_
          try simp only [Act.put, List.setIfInBounds_toArray, List.set_cons_zero, List.set_cons_succ]
          refine wpAnyH_take (i := 8) (oi := { dst := some 30, op := _, type := _, pos := _, after := _, guard := _ }) (v := undef) rfl (by kernel_rfl) (by kernel_rfl) (by kernel_rfl) (fun _ _ _ h => h) (Or.inr ⟨by rfl, rfl⟩) (by assumption) ?_
          try simp only [Act.put, List.setIfInBounds_toArray, List.set_cons_zero, List.set_cons_succ]
          refine wpAnyH_take (i := 9) (oi := { dst := some 31, op := _, type := _, pos := _, after := _, guard := _ }) (v := undef) rfl (by kernel_rfl) (by kernel_rfl) (by kernel_rfl) (fun _ _ _ h => h) (Or.inr ⟨by rfl, rfl⟩) (by assumption) ?_
          try simp only [Act.put, List.setIfInBounds_toArray, List.set_cons_zero, List.set_cons_succ]
          refine wpAnyH_take (i := 10) (oi := { dst := some 32, op := _, type := _, pos := _, after := _, guard := _ }) (v := undef) rfl (by kernel_rfl) (by kernel_rfl) (by kernel_rfl) (fun _ _ _ h => h) (Or.inr ⟨by rfl, rfl⟩) (by assumption) ?_
          try simp only [Act.put, List.setIfInBounds_toArray, List.set_cons_zero, List.set_cons_succ]
          refine wpAnyH_take (i := 11) (oi := { dst := some 33, op := _, type := _, pos := _, after := _, guard := _ }) (v := .bool true) rfl (by kernel_rfl) (by kernel_rfl) (by kernel_rfl) (fun _ _ _ h => h) (Or.inl ⟨by rfl, by intro w hSw; clear hSw; go_simp; (try with_reducible rfl)⟩) (by assumption) ?_
          try simp only [Act.put, List.setIfInBounds_toArray, List.set_cons_zero, List.set_cons_succ]
          refine wpAnyH_done (by kernel_rfl) ?_ _
          clear hHeld
          have K7 : Blk x8.drew b7 16 G 27 := K7.drew
          have K4 : Blk x8.drew b4 128 F 102 := K4.drew
          have HO : Hid (OwnsL 27 16 x8.drew (w.heap.size + 1) (.slice (some ⟨gg, 0, none⟩) (dedN S8 0).length cap) (dedN S8 0)) := HO.out
          have HB : Hid (Below w.heap.size w x8.drew) := HB.out.drew
          generalize x8.drew = x9 at *
          have Y : Hid (dedN S8 (0 + 1) = dedN S8 0 ++ [l]) := ded_no HKL.out (by omega)
          have hL := ded_len S8 0
          have hn8 : (dedN S8 0).length ≤ 8 := by omega
          have hlt9 := K4.lt
          go_wp2_with (first | ((with_reducible show wpList _ _ _ (Oper.mk _ (Op.load 27 _) _ _ _ _ :: _) _ _); refine loadB (K7) rfl rfl rfl ?_) | ((with_reducible show wpList _ _ _ (Oper.mk _ (Op.buildSlice _ 1 _) _ _ _ _ :: _) _ _); refine wpl_buildB _ rfl rfl (f := G) rfl ?_) | (at_builtin; refine wpl_app (v := .slice (some ⟨gg, 0, none⟩) (dedN S8 0).length cap) rfl _ _ 36 rfl (w.heap.size + 1) 27 i0 _ 16 128 Try.underlying36 hi hz0 hz1 hz2 rfl (by decide) rfl (World.ownsRow.alloc HO.out _) x9.heap.size 0 1 1 G 16 rfl (Blk.new _ _ _ _).at (by omega) (by unfold maxLen; omega) (by omega) (by simp; omega) ?_))
          intro v' w8 R hbl hgr hloc
          obtain ⟨g', cap', hv'⟩ := ownsRow_succ R
          have hgne : v'.ownBlock ≠ some b4 := by
            intro e
            have h9 := K4.lt
            rcases hloc with q | q
            · rw [q] at e; exact HNE.out e
            · rw [q] at e; simp at e; omega
          have HR : Hid (OwnsL 27 16 w8 (w.heap.size + 1) v' (dedN S8 (0 + 1))) := by
            rw [snoc_walk (m := 16) _ G, HCL.out] at R
            show OwnsL _ _ _ _ _ _
            rw [Y.out]
            unfold OwnsL
            rw [List.length_append]
            exact R
          have HVv : Hid (∃ gg cap, v' = .slice (some ⟨gg, 0, none⟩) (dedN S8 (0 + 1)).length cap) := ⟨g', cap', by rw [Y.out, List.length_append]; exact hv'⟩
          have K4 := (K4.alloc (.cells (mk 16 G) 27)).grown hgr (fun e => HNE.out e.symm)
          have HB : Hid (Below w.heap.size w w8) := (HB.out.alloc HB.out.size _).trans (hbl.mono (by omega))
          have HNE : Hid (v'.ownBlock ≠ some b4) := hgne
          clear hbl hgr R hv' HO hloc hgne
          go_wp2_with fail
          go_roundg gk2
          case rel => exact ⟨0 + 1, _, by omega, by go_num, rfl, HVv.out, HR, HNE, K4, HB⟩
          case measure => omega
        | succ p =>
          obtain ⟨lp, hkp⟩ : ∃ lp, S8[p]? = some lp := ⟨S8[p]'(by rw [HLN.out]; omega), List.getElem?_eq_getElem _⟩
          have HCP : Hid (lp = cl 16 (fun i => F (p * 16 + i))) := by
            show _ = _
            rw [← cl_fn (HAL.out lp (List.mem_of_getElem? hkp)), cl_inj]
            intro i hi; rw [← HFF.out]; exact (flatF_at HAL.out hkp hi).symm
          have HKP := Lib.hid hkp
          clear hkp
          have hne0 : ¬ ((p : Int) + 1 = 0) := by omega
          have hpw : IntKind.i64.wrap (p : Int) = (p : Int) := IntWalk.i64_in _ (by omega)
          have hp8 : (p : Int) < 8 := by omega
          have hp0 : (0 : Int) ≤ (p : Int) := by omega
          go_wp2_with fail
          refine wp_region_held_drew (S := fun W => Blk W b7 16 G 27 ∧ Blk W b4 128 F 102) (by kernel_rfl) (⟨K7.drew, K4.drew⟩) (fun hHeld => ?_)
          refine wpAnyH_take (i := 0) (oi := { dst := some 22, op := _, type := _, pos := _, after := _, guard := _ }) (v := .int .i64 ((p + 1 : Nat) : Int)) rfl (by kernel_rfl) (by kernel_rfl) (by kernel_rfl) (fun _ _ _ h => h) (Or.inl ⟨by rfl, by intro w hSw; clear hSw; go_simp; (try with_reducible rfl)⟩) (by assumption) ?_
          try simp only [Act.put, List.setIfInBounds_toArray, List.set_cons_zero, List.set_cons_succ]
          refine wpAnyH_take (i := 1) (oi := { dst := some 23, op := _, type := _, pos := _, after := _, guard := _ }) (v := .bool false) rfl (by kernel_rfl) (by kernel_rfl) (by kernel_rfl) (fun _ _ _ h => h) (Or.inl ⟨by rfl, by intro w hSw; clear hSw; go_simp; (try with_reducible rfl)⟩) (by assumption) ?_
          try simp only [Act.put, List.setIfInBounds_toArray, List.set_cons_zero, List.set_cons_succ]
          refine wpAnyH_take (i := 2) (oi := { dst := some 24, op := _, type := _, pos := _, after := _, guard := _ }) (v := .bool false) rfl (by kernel_rfl) (by kernel_rfl) (by kernel_rfl) (fun _ _ _ h => h) (Or.inl ⟨by rfl, by intro w hSw; clear hSw; go_simp; (try with_reducible rfl)⟩) (by assumption) ?_
          try simp only [Act.put, List.setIfInBounds_toArray, List.set_cons_zero, List.set_cons_succ]
          refine wpAnyH_take (i := 3) (oi := { dst := some 25, op := _, type := _, pos := _, after := _, guard := _ }) (v := .pointer (some ⟨b7, 0, none⟩)) rfl (by kernel_rfl) (by kernel_rfl) (by kernel_rfl) (fun _ _ _ h => h) (Or.inl ⟨by rfl, by intro w hSw; clear hSw; go_simp; (try with_reducible rfl)⟩) (by assumption) ?_
          try simp only [Act.put, List.setIfInBounds_toArray, List.set_cons_zero, List.set_cons_succ]
          refine wpAnyH_take (i := 4) (oi := { dst := some 26, op := _, type := _, pos := _, after := _, guard := _ }) (v := .agg (mk 16 G)) rfl (by kernel_rfl) (by kernel_rfl) (by kernel_rfl) (fun _ _ _ h => h) (Or.inl ⟨by rfl, fun _ q => exec_load_blk _ _ rfl rfl q.1 Try.underlying25 rfl sizeG⟩) (by assumption) ?_
          try simp only [Act.put, List.setIfInBounds_toArray, List.set_cons_zero, List.set_cons_succ]
          refine wpAnyH_take (i := 5) (oi := { dst := some 27, op := _, type := _, pos := _, after := _, guard := _ }) (v := .int .i64 ((p + 1 : Nat) : Int)) rfl (by kernel_rfl) (by kernel_rfl) (by kernel_rfl) (fun _ _ _ h => h) (Or.inl ⟨by rfl, by intro w hSw; clear hSw; go_simp; (try with_reducible rfl)⟩) (by assumption) ?_
          try simp only [Act.put, List.setIfInBounds_toArray, List.set_cons_zero, List.set_cons_succ]
          refine wpAnyH_take (i := 6) (oi := { dst := some 28, op := _, type := _, pos := _, after := _, guard := _ }) (v := .int .i64 (p : Int)) rfl (by kernel_rfl) (by kernel_rfl) (by kernel_rfl) (fun _ _ _ h => h) (Or.inl ⟨by rfl, by intro w hSw; clear hSw; go_simp; (try with_reducible rfl)⟩) (by assumption) ?_
          try simp only [Act.put, List.setIfInBounds_toArray, List.set_cons_zero, List.set_cons_succ]
          refine wpAnyH_take (i := 7) (oi := { dst := some 29, op := _, type := _, pos := _, after := _, guard := _ }) (v := .pointer (some ⟨b4, p * 16, none⟩)) rfl (by kernel_rfl) (by kernel_rfl) (by kernel_rfl) (fun _ _ _ h => h) (Or.inl ⟨by rfl, by intro w hSw; clear hSw; go_simp; (try with_reducible rfl)⟩) (by assumption) ?_
          try simp only [Act.put, List.setIfInBounds_toArray, List.set_cons_zero, List.set_cons_succ]
          refine wpAnyH_take (i := 8) (oi := { dst := some 30, op := _, type := _, pos := _, after := _, guard := _ }) (v := .pointer (some ⟨b4, p * 16, none⟩)) rfl (by kernel_rfl) (by kernel_rfl) (by kernel_rfl) (fun _ _ _ h => h) (Or.inl ⟨by rfl, by intro w hSw; clear hSw; go_simp; (try with_reducible rfl)⟩) (by assumption) ?_
          try simp only [Act.put, List.setIfInBounds_toArray, List.set_cons_zero, List.set_cons_succ]
          refine wpAnyH_take (i := 9) (oi := { dst := some 31, op := _, type := _, pos := _, after := _, guard := _ }) (v := .agg (mk 16 fun i => F (p * 16 + i))) rfl (by kernel_rfl) (by kernel_rfl) (by kernel_rfl) (fun _ _ _ h => h) (Or.inl ⟨by rfl, fun _ q => exec_load_at _ _ rfl rfl q.2.at (by omega) Try.underlying25 rfl sizeG⟩) (by assumption) ?_
          try simp only [Act.put, List.setIfInBounds_toArray, List.set_cons_zero, List.set_cons_succ]
          refine wpAnyH_take (i := 10) (oi := { dst := some 32, op := _, type := _, pos := _, after := _, guard := _ }) (v := .bool (!sameB G fun i => F (p * 16 + i))) rfl (by kernel_rfl) (by kernel_rfl) (by kernel_rfl) (fun _ _ _ h => h) (Or.inl ⟨by rfl, by intro W hSw; clear hSw; have iE2 := eqG 9997 G (fun i => F (p * 16 + i)) W; go_simp⟩) (by assumption) ?_
          try simp only [Act.put, List.setIfInBounds_toArray, List.set_cons_zero, List.set_cons_succ]
          refine wpAnyH_take (i := 11) (oi := { dst := some 33, op := _, type := _, pos := _, after := _, guard := _ }) (v := .bool (!sameB G fun i => F (p * 16 + i))) rfl (by kernel_rfl) (by kernel_rfl) (by kernel_rfl) (fun _ _ _ h => h) (Or.inl ⟨by rfl, by intro w hSw; clear hSw; go_simp; (try with_reducible rfl)⟩) (by assumption) ?_
          try simp only [Act.put, List.setIfInBounds_toArray, List.set_cons_zero, List.set_cons_succ]
          refine wpAnyH_done (by kernel_rfl) ?_ _
          clear hHeld
          have K7 : Blk x8.drew b7 16 G 27 := K7.drew
          have K4 : Blk x8.drew b4 128 F 102 := K4.drew
          have HO : Hid (OwnsL 27 16 x8.drew (w.heap.size + 1) (.slice (some ⟨gg, 0, none⟩) (dedN S8 (p + 1)).length cap) (dedN S8 (p + 1))) := HO.out
          have HB : Hid (Below w.heap.size w x8.drew) := HB.out.drew
          generalize x8.drew = x9 at *
          cases hs : sameB G (fun i => F (p * 16 + i)) with
          | true =>
            have Y : Hid (dedN S8 (p + 1 + 1) = dedN S8 (p + 1)) := ded_yes HKL.out ⟨by omega, by
              rw [Nat.add_sub_cancel, HKP.out, HCP.out, ← HCL.out]
              congr 1
              exact (cl_inj.2 (sameB_iff.1 hs)).symm⟩
            clear hs
            go_wp2_with fail
            go_roundg gk2
            case rel => exact ⟨p + 1 + 1, _, by omega, by go_num, rfl, ⟨gg, cap, by rw [Y.out]⟩, by rw [Y.out]; exact HO, HNE, K4, HB⟩
            case measure => omega
          | false =>
            have Y : Hid (dedN S8 (p + 1 + 1) = dedN S8 (p + 1) ++ [l]) := ded_no HKL.out (fun q => by
              have q2 := q.2
              rw [Nat.add_sub_cancel, HKP.out, HCP.out, ← HCL.out] at q2
              simp only [Option.some.injEq] at q2
              have := sameB_iff.2 (fun j hj => (cl_inj.1 q2 j hj).symm)
              rw [hs] at this; cases this)
            clear hs
            have hL := ded_len S8 (p + 1)
            have hn8 : (dedN S8 (p + 1)).length ≤ 8 := by omega
            have hlt9 := K4.lt
            go_wp2_with (first | ((with_reducible show wpList _ _ _ (Oper.mk _ (Op.load 27 _) _ _ _ _ :: _) _ _); refine loadB (K7) rfl rfl rfl ?_) | ((with_reducible show wpList _ _ _ (Oper.mk _ (Op.buildSlice _ 1 _) _ _ _ _ :: _) _ _); refine wpl_buildB _ rfl rfl (f := G) rfl ?_) | (at_builtin; refine wpl_app (v := .slice (some ⟨gg, 0, none⟩) (dedN S8 (p + 1)).length cap) rfl _ _ 36 rfl (w.heap.size + 1) 27 i0 _ 16 128 Try.underlying36 hi hz0 hz1 hz2 rfl (by decide) rfl (World.ownsRow.alloc HO.out _) x9.heap.size 0 1 1 G 16 rfl (Blk.new _ _ _ _).at (by omega) (by unfold maxLen; omega) (by omega) (by simp; omega) ?_))
            intro v' w8 R hbl hgr hloc
            obtain ⟨g', cap', hv'⟩ := ownsRow_succ R
            have hgne : v'.ownBlock ≠ some b4 := by
              intro e
              have h9 := K4.lt
              rcases hloc with q | q
              · rw [q] at e; exact HNE.out e
              · rw [q] at e; simp at e; omega
            have HR : Hid (OwnsL 27 16 w8 (w.heap.size + 1) v' (dedN S8 ((p + 1) + 1))) := by
              rw [snoc_walk (m := 16) _ G, HCL.out] at R
              show OwnsL _ _ _ _ _ _
              rw [Y.out]
              unfold OwnsL
              rw [List.length_append]
              exact R
            have HVv : Hid (∃ gg cap, v' = .slice (some ⟨gg, 0, none⟩) (dedN S8 ((p + 1) + 1)).length cap) := ⟨g', cap', by rw [Y.out, List.length_append]; exact hv'⟩
            have K4 := (K4.alloc (.cells (mk 16 G) 27)).grown hgr (fun e => HNE.out e.symm)
            have HB : Hid (Below w.heap.size w w8) := (HB.out.alloc HB.out.size _).trans (hbl.mono (by omega))
            have HNE : Hid (v'.ownBlock ≠ some b4) := hgne
            clear hbl hgr R hv' HO hloc hgne
            go_wp2_with fail
            go_roundg gk2
            case rel => exact ⟨(p + 1) + 1, _, by omega, by go_num, rfl, HVv.out, HR, HNE, K4, HB⟩
            case measure => omega
  · rw [foR_no hV, vdO_no hV]
    have HV := Lib.hid hV
    clear hV
    go_enter Try.func19, Try.ntmps19
    go_wp2_with ((with_reducible show wpList _ _ _ (Oper.mk _ (Op.load 27 _) _ _ _ _ :: _) _ _); refine loadB (K1) rfl rfl rfl ?_)
    refine (implBoard_no _ _ HV.out).mono ?_
    rintro e w1 ⟨rfl, hb⟩
    have HB : Hid (Below w.heap.size w w1) := HB.out.trans (hb.mono HB.out.size)
    have HO : Hid (OwnsL 27 16 (w1.alloc (.cells #[] 27)) w.heap.size (.slice (some ⟨w1.heap.size, 0, none⟩) 0 0) []) := OwnsL.made w1 HB.out.size
    have HB : Hid (Below w.heap.size w (w1.alloc (.cells #[] 27))) := HB.out.alloc HB.out.size _
    clear hb
    go_wp2_with fail
    go_ret2
    exact ⟨_, _, rfl, HO.out, HB.out⟩
end Go.Proofs.Ytpiegllffkjneaa
