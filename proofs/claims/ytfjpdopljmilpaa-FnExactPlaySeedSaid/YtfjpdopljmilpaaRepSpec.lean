/-
  The contracts of the reference's l11Boards, IsReplay, BoardAt and ReplayScore: all boards of a replay.
-/
import Derived.Test.YtfjpdopljmilpaaRepKit
import Derived.Test.YtfjpdopljmilpaaSpecDo
import Derived.Test.YtfjpdopljmilpaaSpecSteps
namespace Go.Proofs.Ytfjpdopljmilpaa
open Go.RowKit Plain
attribute [local go_sem] store_new
set_option linter.unusedVariables false
set_option linter.unusedSimpArgs false

/-- The boards that are told. -/
def rbR (f h : Nat → Int) (n : Nat) : List (List Int) := if RpOk f h n then rbL f h (n + 1) else []
theorem rbR_all (f h : Nat → Int) (n : Nat) : AllL 16 (rbR f h n) := by
  unfold rbR; split
  · exact rbL_all f h _
  · exact AllL.nil 16
theorem OwnsL.len {t : TypeId} {m b n c g : Nat} {w : World} {L : List (List Int)} (hn : L.length = n) (h : OwnsL t m w b (.slice (some ⟨g, 0, none⟩) n c) L) : OwnsL t m w b (.slice (some ⟨g, 0, none⟩) L.length c) L := by subst hn; exact h
theorem OwnsL.cast {t : TypeId} {m b n : Nat} {w : World} {v : Value} {L : List (List Int)} (hn : L.length = n) (h : OwnsL t m w b v L) : w.ownsRow b t m v n (L.flatten.map (Value.int .i64)) := by subst hn; exact h
theorem own_of_blk16 {w : World} {b m : Nat} {f : Nat → Int} {t : TypeId} (base : Nat) (h : Blk w b m f t) (hb : base ≤ b) (hm : 0 < m) : w.ownsRow base t m (.slice (some ⟨b, 0, none⟩) 1 1) 1 (mk m f).toList :=
  ⟨by rw [mk_len]; omega, .inr ⟨b, 1, mk m f, rfl, hb, h, Nat.le_refl _, by decide, by rw [mk_size]; omega, by rw [List.take_of_length_le (by rw [mk_len]; omega)]⟩⟩
theorem OwnsL.just {t : TypeId} {m b : Nat} (w : World) (f : Nat → Int) (hb : b ≤ w.heap.size) (hm : 0 < m) : OwnsL t m (w.alloc (.cells (mk m f) t)) b (.slice (some ⟨w.heap.size, 0, none⟩) 1 1) [cl m f] := by
  unfold OwnsL
  rw [List.flatten_singleton, mk_cl]
  exact own_of_blk16 b (Blk.new w m f t) hb hm
set_option maxHeartbeats 4000000 in
set_option maxRecDepth 20000 in
theorem l11Boards_any (f : Nat → Int) (v : Value) (n : Nat) (h : Nat → Int) (w : World) (hv : KRow 4 w v n h) (hn : n ≤ 1048576) :
    Calls Try.prog 161 #[.agg (rpl f v)] w fun e w' => ∃ u, e = .returned (.tuple #[u, .int .i64 (rscS f h n), .bool (rplO f h n)]) ∧ (∃ g cap, u = .slice (some ⟨g, 0, none⟩) (rbR f h n).length cap) ∧
      OwnsL 26 16 w' w.heap.size u (rbR f h n) ∧ Below w.heap.size w w' := by
  obtain ⟨i0, hi, hz0, hz1, hz2⟩ := info_parts infoB
  have K1 := Rp.new w f v 29
  have c16 := K1.last
  have HB0 := Lib.hid ((Below.refl w.heap.size w).alloc (Nat.le_refl _) (.cells (rpl f v) 29))
  have z16 := zero16
  have z4 := zero4
  obtain ⟨g, cap, rfl, hle, hc⟩ := hv
  have hgw := hc.1
  have HC := Lib.hid hc
  clear hc
  by_cases hV : Vd f
  · by_cases h40 : n ≤ 40
    · have HV0 := Lib.hid (fun k => pyB_vd hV h k)
      have HBD := Lib.hid (fun k => pyS_bd hV h k)
      have HV1 := Lib.hid hV
      have hn40 : ¬ ((40 : Int) < (n : Int)) := by omega
      clear hV
      go_enter Try.func161, Try.ntmps161
      go_wp2_with ((with_reducible show wpList _ _ _ (Oper.mk _ (Op.load 26 _) _ _ _ _ :: _) _ _); refine loadRB (K1) rfl rfl rfl ?_)
      refine (l2Board_yes _ _ HV1.out).mono ?_
      rintro e w1 ⟨rfl, hb⟩
      have K1 := K1.below hb K1.lt
      have c16 := K1.last
      have HB : Hid (Below w.heap.size w w1) := HB0.out.trans (hb.mono HB0.out.size)
      clear HB0
      have hs1 := K1.lt
      clear hb
      have HO1 : Hid (OwnsL 26 16 (w1.alloc (.cells (mk 16 f) 26)) (w.heap.size + 1) (.slice (some ⟨w1.heap.size, 0, none⟩) 1 1) (rbL f h 1)) := OwnsL.just w1 f (by omega) (by decide)
      have K1s := K1.alloc (.cells (mk 16 f) 26)
      have HB1 : Hid (Below w.heap.size w (w1.alloc (.cells (mk 16 f) 26))) := HB.out.alloc HB.out.size _
      go_wp2_with (first | ((with_reducible show wpList _ _ _ (Oper.mk _ (Op.load 26 _) _ _ _ _ :: _) _ _); refine loadRB (K1) rfl rfl rfl ?_) | ((with_reducible show wpList _ _ _ (Oper.mk _ (Op.buildSlice _ 1 _) _ _ _ _ :: _) _ _); refine wpl_buildB _ rfl rfl (f := f) rfl ?_))
      clear K1 HB c16
      generalize w1.alloc (.cells (mk 16 f) 26) = w2 at *
      go_loopg [5, 6, 7] n (fun gk so ss si wr => ∃ (k : Nat) (u : Value), k + gk = n ∧ si = .int .i64 k ∧ ss = .int .i64 (pyS f h k) ∧ u = so ∧ (∃ gg co, u = .slice (some ⟨gg, 0, none⟩) (k + 1) co) ∧ Hid (pyN f h k = k) ∧ Hid (OwnsL 26 16 wr (w.heap.size + 1) u (rbL f h (k + 1))) ∧ Rp wr w.heap.size f (.slice (some ⟨g, 0, none⟩) n cap) 29 ∧ Hid (Below w.heap.size w wr))
      case atStart => exact ⟨0, _, by omega, rfl, rfl, rfl, ⟨_, _, rfl⟩, rfl, HO1, K1s, HB1⟩
      case round =>
        clear HO1 K1s HB1
        obtain ⟨k, u, hkg, rfl, rfl, rfl, ⟨gg, co, hu⟩, HN, HO, K1, HB⟩ := hrel
        subst hu
        have c16 := K1.last
        cases gk with
        | zero =>
          have hk : ¬ ((k : Int) < (n : Int)) := by omega
          obtain rfl : k = n := by omega
          have HR : Hid (RpOk f h k) := ⟨HV1.out, h40, HN.out⟩
          clear hkg
          go_wp2_with fail
          go_ret3
          rw [rsc_yes HR.out, rplO_yes HR.out]
          unfold rbR
          rw [if_pos HR.out, rbL_len]
          exact ⟨_, rfl, ⟨_, _, rfl⟩, HO.out.wide (Nat.le_succ _), HB.out⟩
        | succ gk2 =>
          have hk8 : (k : Int) < (n : Int) := by omega
          have hk9 : k < n := by omega
          have hk0 : (0 : Int) ≤ (k : Int) := by omega
          have hkk : ¬ ((k : Int) + 1 ≤ (k : Int)) := by omega
          have hkn : ¬ ((n : Int) ≤ (k : Int)) := by omega
          have CM : CAt wr g (n * 4) h := CAt.low HC.out HB.out HC.out.1
          have HV := Lib.hid (HV0.out k)
          have hbd := HBD.out k
          have HFM : Hid (mk 16 (fun i => flatF (rbL f h (k + 1)) (k * 16 + i)) = mk 16 (pyB f h k)) := by
            show _ = _
            rw [flatF_mk (rbL_all f h _) (rbL_get f h (Nat.lt_succ_self k))]
            exact mk_congr fun i hi => fn_cl _ i hi
          have HLN : Hid ((rbL f h (k + 1)).length = k + 1) := rbL_len f h _
          obtain ⟨_, _, e1, _, CO⟩ := KRow.of_list (rbL_all f h (k + 1)) (OwnsL.len HLN.out HO.out)
          cases e1
          rw [HLN.out] at CO
          generalize hL : rbL f h (k + 1) = L at *
          have HL : Hid (rbL f h (k + 1) = L) := hL
          clear hL
          generalize hF : pyB f h k = F at *
          generalize hM : pyS f h k = M at *
          have HF : Hid (pyB f h k = F) := hF
          have HM : Hid (pyS f h k = M) := hM
          clear hF hM c16
          obtain ⟨hbd0, hbd1⟩ := hbd
          have hbd2 : M ≤ 4398046511104 := by omega
          clear hbd1
          have c16 := K1.last
          go_wp2_with fail
          clear c16
          refine wp_region_held_drew (S := fun W => CAt W gg ((k + 1) * 16) (flatF L) ∧ Rp W w.heap.size f (.slice (some ⟨g, 0, none⟩) n cap) 29 ∧ CAt W g (n * 4) h) (by kernel_rfl) (⟨CO.drew, K1.drew, CM.drew⟩) (fun hHeld => ?_)
          have CO : CAt wr.drew gg ((k + 1) * 16) (flatF L) := CO.drew
          have K1 : Rp wr.drew w.heap.size f (.slice (some ⟨g, 0, none⟩) n cap) 29 := K1.drew
          have CM : CAt wr.drew g (n * 4) h := CM.drew
          have BX : Hid (Below wr.heap.size wr wr.drew) := (Below.refl _ wr).drew
          generalize wr.drew = x0 at *
          refine wpAnyH_take (i := 0) (oi := { dst := some 33, op := _, type := _, pos := _, after := _, guard := _ }) (v := .slice (some ⟨gg, 0, none⟩) (k + 1) co) rfl (by kernel_rfl) (by kernel_rfl) (by kernel_rfl) (fun _ _ _ h => h) (Or.inl ⟨by rfl, by intro w hSw; clear hSw; go_simp; (try with_reducible rfl)⟩) (by assumption) ?_
          try simp only [Act.put, List.setIfInBounds_toArray, List.set_cons_zero, List.set_cons_succ]
          refine wpAnyH_take (i := 1) (oi := { dst := some 34, op := _, type := _, pos := _, after := _, guard := _ }) (v := .int .i64 (k : Int)) rfl (by kernel_rfl) (by kernel_rfl) (by kernel_rfl) (fun _ _ _ h => h) (Or.inl ⟨by rfl, by intro w hSw; clear hSw; go_simp; (try with_reducible rfl)⟩) (by assumption) ?_
          try simp only [Act.put, List.setIfInBounds_toArray, List.set_cons_zero, List.set_cons_succ]
          refine wpAnyH_take (i := 2) (oi := { dst := some 35, op := _, type := _, pos := _, after := _, guard := _ }) (v := .pointer (some ⟨gg, k * 16, none⟩)) rfl (by kernel_rfl) (by kernel_rfl) (by kernel_rfl) (fun _ _ _ h => h) (Or.inl ⟨by rfl, by intro w hSw; clear hSw; go_simp; (try with_reducible rfl)⟩) (by assumption) ?_
          try simp only [Act.put, List.setIfInBounds_toArray, List.set_cons_zero, List.set_cons_succ]
          refine wpAnyH_take (i := 3) (oi := { dst := some 36, op := _, type := _, pos := _, after := _, guard := _ }) (v := .agg (mk 16 F)) rfl (by kernel_rfl) (by kernel_rfl) (by kernel_rfl) (fun _ _ _ h => h) (Or.inl ⟨by rfl, fun W q => Eq.mp (congrArg (fun z => (execOp _ _).run Try.prog W = .ok (.value (.agg z)) W) HFM.out) (execAB q.1 (by omega) rfl rfl)⟩) (by assumption) ?_
          try simp only [Act.put, List.setIfInBounds_toArray, List.set_cons_zero, List.set_cons_succ]
          refine wpAnyH_take (i := 4) (oi := { dst := some 37, op := _, type := _, pos := _, after := _, guard := _ }) (v := .pointer (some ⟨w.heap.size, 16, none⟩)) rfl (by kernel_rfl) (by kernel_rfl) (by kernel_rfl) (fun _ _ _ h => h) (Or.inl ⟨by rfl, by intro w hSw; clear hSw; go_simp; (try with_reducible rfl)⟩) (by assumption) ?_
          try simp only [Act.put, List.setIfInBounds_toArray, List.set_cons_zero, List.set_cons_succ]
          refine wpAnyH_take (i := 5) (oi := { dst := some 38, op := _, type := _, pos := _, after := _, guard := _ }) (v := .slice (some ⟨g, 0, none⟩) n cap) rfl (by kernel_rfl) (by kernel_rfl) (by kernel_rfl) (fun _ _ _ h => h) (Or.inl ⟨by rfl, by intro W hSw; have c16 := Rp.last hSw.2.1; clear hSw; go_simp; (try with_reducible rfl)⟩) (by assumption) ?_
          try simp only [Act.put, List.setIfInBounds_toArray, List.set_cons_zero, List.set_cons_succ]
          refine wpAnyH_take (i := 6) (oi := { dst := some 39, op := _, type := _, pos := _, after := _, guard := _ }) (v := .int .i64 (k : Int)) rfl (by kernel_rfl) (by kernel_rfl) (by kernel_rfl) (fun _ _ _ h => h) (Or.inl ⟨by rfl, by intro w hSw; clear hSw; go_simp; (try with_reducible rfl)⟩) (by assumption) ?_
          try simp only [Act.put, List.setIfInBounds_toArray, List.set_cons_zero, List.set_cons_succ]
          refine wpAnyH_take (i := 7) (oi := { dst := some 40, op := _, type := _, pos := _, after := _, guard := _ }) (v := .pointer (some ⟨g, k * 4, none⟩)) rfl (by kernel_rfl) (by kernel_rfl) (by kernel_rfl) (fun _ _ _ h => h) (Or.inl ⟨by rfl, by intro w hSw; clear hSw; go_simp; (try with_reducible rfl)⟩) (by assumption) ?_
          try simp only [Act.put, List.setIfInBounds_toArray, List.set_cons_zero, List.set_cons_succ]
          refine wpAnyH_take (i := 8) (oi := { dst := some 41, op := _, type := _, pos := _, after := _, guard := _ }) (v := .agg (mk 4 fun j => h (k * 4 + j))) rfl (by kernel_rfl) (by kernel_rfl) (by kernel_rfl) (fun _ _ _ h => h) (Or.inl ⟨by rfl, fun _ q => execAT q.2.2 (by omega) rfl rfl⟩) (by assumption) ?_
          try simp only [Act.put, List.setIfInBounds_toArray, List.set_cons_zero, List.set_cons_succ]
          refine wpAnyH_ready (rs := [9, 14]) (by kernel_rfl) (by simp) ?_
          refine AllReadyH.cons rfl (fun K hK => ?_) ?_
          · go_simp
            refine (l5Do_any F (fun j => h (k * 4 + j)) _ HV.out).mono ?_
            rintro e x1 ⟨rfl, hb⟩
            have CO := CO.below hb
            have CM := CM.below hb
            have K1 := K1.below hb K1.lt
            have BX : Hid (Below wr.heap.size wr x1) := BX.out.trans (hb.mono BX.out.size)
            clear hb hHeld
            go_wp2_with fail
            refine hK.out _ _ ⟨CO, K1, CM⟩ (fun hHeld => ?_)
            clear hK K
            try simp only [Act.put, List.setIfInBounds_toArray, List.set_cons_zero, List.set_cons_succ]
            refine wpAnyH_take (i := 10) (oi := { dst := some 32, op := _, type := _, pos := _, after := _, guard := _ }) (v := .tuple #[.agg (mk 16 (doB F fun j => h (k * 4 + j))), .int .i64 (doS F fun j => h (k * 4 + j)), .bool (doO F fun j => h (k * 4 + j))]) rfl (by kernel_rfl) (by kernel_rfl) (by kernel_rfl) (fun _ _ _ h => h) (Or.inl ⟨by rfl, by intro w hSw; clear hSw; go_simp; (try with_reducible rfl)⟩) (by assumption) ?_
            try simp only [Act.put, List.setIfInBounds_toArray, List.set_cons_zero, List.set_cons_succ]
            refine wpAnyH_take (i := 11) (oi := { dst := some 43, op := _, type := _, pos := _, after := _, guard := _ }) (v := .agg (mk 16 (doB F fun j => h (k * 4 + j)))) rfl (by kernel_rfl) (by kernel_rfl) (by kernel_rfl) (fun _ _ _ h => h) (Or.inl ⟨by rfl, by intro w hSw; clear hSw; go_simp; (try with_reducible rfl)⟩) (by assumption) ?_
            try simp only [Act.put, List.setIfInBounds_toArray, List.set_cons_zero, List.set_cons_succ]
            refine wpAnyH_take (i := 12) (oi := { dst := some 44, op := _, type := _, pos := _, after := _, guard := _ }) (v := .int .i64 (doS F fun j => h (k * 4 + j))) rfl (by kernel_rfl) (by kernel_rfl) (by kernel_rfl) (fun _ _ _ h => h) (Or.inl ⟨by rfl, by intro w hSw; clear hSw; go_simp; (try with_reducible rfl)⟩) (by assumption) ?_
            try simp only [Act.put, List.setIfInBounds_toArray, List.set_cons_zero, List.set_cons_succ]
            refine wpAnyH_take (i := 13) (oi := { dst := some 45, op := _, type := _, pos := _, after := _, guard := _ }) (v := .bool (doO F fun j => h (k * 4 + j))) rfl (by kernel_rfl) (by kernel_rfl) (by kernel_rfl) (fun _ _ _ h => h) (Or.inl ⟨by rfl, by intro w hSw; clear hSw; go_simp; (try with_reducible rfl)⟩) (by assumption) ?_
            try simp only [Act.put, List.setIfInBounds_toArray, List.set_cons_zero, List.set_cons_succ]
            refine wpAnyH_ready (rs := [14]) (by kernel_rfl) (by simp) ?_
            refine AllReadyH.cons rfl (fun K hK => ?_) AllReadyH.nil
            rw [if_pos (by rfl)]
            refine wp_allocX rfl ?_
            have K8 := Blk.new x1 16 (fun _ => 0) 26
            have HB8 : Hid (wr.heap.size ≤ x1.heap.size) := BX.out.size
            have HB9 : Hid (w.heap.size < x1.heap.size ∧ g < x1.heap.size ∧ gg < x1.heap.size) := ⟨K1.lt, CM.1, CO.1⟩
            have CO := CO.alloc (.cells (mk 16 fun _ => 0) 26)
            have K1 := K1.alloc (.cells (mk 16 fun _ => 0) 26)
            have CM := CM.alloc (.cells (mk 16 fun _ => 0) 26)
            have BX : Hid (Below wr.heap.size wr (x1.alloc (.cells (mk 16 fun _ => 0) 26))) := BX.out.alloc BX.out.size _
            clear hHeld
            generalize x1.alloc (.cells (mk 16 fun _ => 0) 26) = x2 at *
            generalize x1.heap.size = b8 at *
            refine hK.out _ _ ⟨CO, K1, CM⟩ (fun hHeld => ?_)
            clear hK K
            try simp only [Act.put, List.setIfInBounds_toArray, List.set_cons_zero, List.set_cons_succ]
            refine wpAnyH_ready (rs := [15]) (by kernel_rfl) (by simp) ?_
            refine AllReadyH.cons rfl (fun K hK => ?_) AllReadyH.nil
            have st1 := run_store_blk (P := Try.prog) (g := doB F fun j => h (k * 4 + j)) K8
            have ms1 : (mk 16 (doB F fun j => h (k * 4 + j))).size = 16 := mk_size 16 _
            go_simp
            clear st1 ms1
            have hgr : x2.grownBy (x2.setRow b8 (mk 16 (doB F fun j => h (k * 4 + j)))) (some b8) := grown_row K8 _
            have K1 := K1.rowOther b8 (mk 16 (doB F fun j => h (k * 4 + j))) (by have := HB9.out.1; omega)
            have CM := CM.grown hgr (fun e => by cases e; exact absurd HB9.out.2.1 (Nat.lt_irrefl _))
            have CO := CO.grown hgr (fun e => by cases e; exact absurd HB9.out.2.2 (Nat.lt_irrefl _))
            have BX : Hid (Below wr.heap.size wr (x2.setRow b8 (mk 16 (doB F fun j => h (k * 4 + j))))) := below_setRow BX.out HB8.out _
            have K8 := K8.row 16 (doB F fun j => h (k * 4 + j))
            clear hgr hHeld
            generalize x2.setRow b8 (mk 16 (doB F fun j => h (k * 4 + j))) = x3 at *
            refine hK.out _ _ ⟨CO, K1, CM⟩ (fun hHeld => ?_)
            clear hK K
            try simp only [Act.put, List.setIfInBounds_toArray, List.set_cons_zero, List.set_cons_succ]
            refine wpAnyH_take (i := 16) (oi := { dst := some 9, op := _, type := _, pos := _, after := _, guard := _ }) (v := .int .i64 (doS F fun j => h (k * 4 + j))) rfl (by kernel_rfl) (by kernel_rfl) (by kernel_rfl) (fun _ _ _ h => h) (Or.inl ⟨by rfl, by intro w hSw; clear hSw; go_simp; (try with_reducible rfl)⟩) (by assumption) ?_
            try simp only [Act.put, List.setIfInBounds_toArray, List.set_cons_zero, List.set_cons_succ]
            refine wpAnyH_take (i := 17) (oi := { dst := some 10, op := _, type := _, pos := _, after := _, guard := _ }) (v := .bool (doO F fun j => h (k * 4 + j))) rfl (by kernel_rfl) (by kernel_rfl) (by kernel_rfl) (fun _ _ _ h => h) (Or.inl ⟨by rfl, by intro w hSw; clear hSw; go_simp; (try with_reducible rfl)⟩) (by assumption) ?_
            try simp only [Act.put, List.setIfInBounds_toArray, List.set_cons_zero, List.set_cons_succ]
            refine wpAnyH_done (by kernel_rfl) ?_ _
            clear hHeld
            have HOs : Hid (OwnsL 26 16 x3 (w.heap.size + 1) (.slice (some ⟨gg, 0, none⟩) (k + 1) co) L) := owns_below HO.out BX.out
            have HB3 : Hid (Below w.heap.size w x3) := HB.out.trans (BX.out.mono HB.out.size)
            have hs3 := HB3.out.size
            have hs4 := K1.lt
            clear BX HB8 HB9 HO
            cases hO : doO F fun j => h (k * 4 + j) with
            | true =>
              have HN : Hid (pyN f h (k + 1) = k + 1) := pyN_yes HN.out (by rw [HF.out]; exact hO)
              have HMB : Hid (doB F (fun j => h (k * 4 + j)) = pyB f h (k + 1)) := by show _ = _; rw [← HF.out]; rfl
              have HMS : Hid (M + doS F (fun j => h (k * 4 + j)) = pyS f h (k + 1)) := by show _ = _; rw [← HF.out, ← HM.out]; rfl
              obtain ⟨hsc0, hsc1⟩ := doS_bd HV.out (fun j => h (k * 4 + j))
              generalize doS F (fun j => h (k * 4 + j)) = C at *
              generalize doB F (fun j => h (k * 4 + j)) = G at *
              clear hO
              have HLs : Hid (rbL f h (k + 1 + 1) = L ++ [cl 16 G]) := by show _ = _; rw [HMB.out, ← HL.out]; rfl
              go_wp2_with (first | ((with_reducible show wpList _ _ _ (Oper.mk _ (Op.load 26 _) _ _ _ _ :: _) _ _); refine loadB (K8) rfl rfl rfl ?_) | ((with_reducible show wpList _ _ _ (Oper.mk _ (Op.buildSlice _ 1 _) _ _ _ _ :: _) _ _); refine wpl_buildB _ rfl rfl (f := G) rfl ?_) | (at_builtin; refine wpl_app (v := .slice (some ⟨gg, 0, none⟩) (k + 1) co) rfl _ _ 119 rfl (w.heap.size + 1) 26 i0 _ 16 128 Try.underlying119 hi hz0 hz1 hz2 rfl (by decide) rfl (OwnsL.cast HLN.out (OwnsL.alloc HOs.out _)) x3.heap.size 0 1 1 G 16 rfl (Blk.new _ _ _ _).at (by omega) (by unfold maxLen; omega) (by omega) (by simp; omega) ?_))
              intro v' w7 R hbl hgr hloc
              have hlt := HOs.out.lt gg rfl
              have HO7 : Hid (OwnsL 26 16 w7 (w.heap.size + 1) v' (rbL f h (k + 1 + 1))) := by
                rw [snoc_walk (m := 16) _ G] at R
                show w7.ownsRow _ _ _ _ _ _
                rw [rbL_len, HLs.out]
                exact R
              obtain ⟨g', cap', hv'⟩ := ownsRow_succ R
              have HVv : Hid (∃ gg cap, v' = .slice (some ⟨gg, 0, none⟩) (k + 1 + 1) cap) := ⟨g', cap', hv'⟩
              have HB7 : Hid (Below w.heap.size w w7) := (HB3.out.alloc hs3 _).trans (hbl.mono (Nat.le_succ _))
              have K1 := (K1.alloc (.cells (mk 16 G) 26)).below hbl (Nat.lt_succ_self _)
              clear hbl hgr R hv' HOs hloc HB hlt CO CM
              go_wp2_with fail
              go_roundg gk2
              case rel => exact ⟨k + 1, _, by omega, by go_num, by rw [← HMS.out], rfl, HVv.out, HN, HO7, K1, HB7⟩
              case measure => omega
            | false =>
              have HE : Hid (¬ RpOk f h n) := fun q => by
                have := (py_down q.2.2 k (by omega)).2 (by omega)
                rw [HF.out] at this
                simp [doO] at hO
                exact hO this
              clear hO
              have HOm : Hid (OwnsL 26 16 (x3.alloc (.cells #[] 26)) w.heap.size (.slice (some ⟨x3.heap.size, 0, none⟩) 0 0) []) := OwnsL.made x3 hs3
              have HBm : Hid (Below w.heap.size w (x3.alloc (.cells #[] 26))) := HB3.out.alloc hs3 _
              go_wp2_with fail
              go_ret3
              rw [rsc_no HE.out, rplO_no HE.out]
              unfold rbR
              rw [if_neg HE.out]
              exact ⟨_, rfl, ⟨_, _, rfl⟩, HOm.out, HBm.out⟩
          refine AllReadyH.cons rfl (fun K hK => ?_) AllReadyH.nil
          rw [if_pos (by rfl)]
          refine wp_allocX rfl ?_
          have K8 := Blk.new x0 16 (fun _ => 0) 26
          have HB8 : Hid (wr.heap.size ≤ x0.heap.size) := BX.out.size
          have HB9 : Hid (w.heap.size < x0.heap.size ∧ g < x0.heap.size ∧ gg < x0.heap.size) := ⟨K1.lt, CM.1, CO.1⟩
          have CO := CO.alloc (.cells (mk 16 fun _ => 0) 26)
          have K1 := K1.alloc (.cells (mk 16 fun _ => 0) 26)
          have CM := CM.alloc (.cells (mk 16 fun _ => 0) 26)
          have BX : Hid (Below wr.heap.size wr (x0.alloc (.cells (mk 16 fun _ => 0) 26))) := BX.out.alloc BX.out.size _
          clear hHeld
          generalize x0.alloc (.cells (mk 16 fun _ => 0) 26) = x1 at *
          generalize x0.heap.size = b8 at *
          refine hK.out _ _ ⟨CO, K1, CM⟩ (fun hHeld => ?_)
          clear hK K
          try simp only [Act.put, List.setIfInBounds_toArray, List.set_cons_zero, List.set_cons_succ]
          refine wpAnyH_ready (rs := [9]) (by kernel_rfl) (by simp) ?_
          refine AllReadyH.cons rfl (fun K hK => ?_) AllReadyH.nil
          go_simp
          refine (l5Do_any F (fun j => h (k * 4 + j)) _ HV.out).mono ?_
          rintro e x2 ⟨rfl, hb⟩
          have CO := CO.below hb
          have CM := CM.below hb
          have K1 := K1.below hb K1.lt
          have BX : Hid (Below wr.heap.size wr x2) := BX.out.trans (hb.mono BX.out.size)
          have K8 := K8.below hb K8.lt
          clear hb hHeld
          go_wp2_with fail
          refine hK.out _ _ ⟨CO, K1, CM⟩ (fun hHeld => ?_)
          clear hK K
          try simp only [Act.put, List.setIfInBounds_toArray, List.set_cons_zero, List.set_cons_succ]
          refine wpAnyH_take (i := 10) (oi := { dst := some 32, op := _, type := _, pos := _, after := _, guard := _ }) (v := .tuple #[.agg (mk 16 (doB F fun j => h (k * 4 + j))), .int .i64 (doS F fun j => h (k * 4 + j)), .bool (doO F fun j => h (k * 4 + j))]) rfl (by kernel_rfl) (by kernel_rfl) (by kernel_rfl) (fun _ _ _ h => h) (Or.inl ⟨by rfl, by intro w hSw; clear hSw; go_simp; (try with_reducible rfl)⟩) (by assumption) ?_
          try simp only [Act.put, List.setIfInBounds_toArray, List.set_cons_zero, List.set_cons_succ]
          refine wpAnyH_take (i := 11) (oi := { dst := some 43, op := _, type := _, pos := _, after := _, guard := _ }) (v := .agg (mk 16 (doB F fun j => h (k * 4 + j)))) rfl (by kernel_rfl) (by kernel_rfl) (by kernel_rfl) (fun _ _ _ h => h) (Or.inl ⟨by rfl, by intro w hSw; clear hSw; go_simp; (try with_reducible rfl)⟩) (by assumption) ?_
          try simp only [Act.put, List.setIfInBounds_toArray, List.set_cons_zero, List.set_cons_succ]
          refine wpAnyH_take (i := 12) (oi := { dst := some 44, op := _, type := _, pos := _, after := _, guard := _ }) (v := .int .i64 (doS F fun j => h (k * 4 + j))) rfl (by kernel_rfl) (by kernel_rfl) (by kernel_rfl) (fun _ _ _ h => h) (Or.inl ⟨by rfl, by intro w hSw; clear hSw; go_simp; (try with_reducible rfl)⟩) (by assumption) ?_
          try simp only [Act.put, List.setIfInBounds_toArray, List.set_cons_zero, List.set_cons_succ]
          refine wpAnyH_take (i := 13) (oi := { dst := some 45, op := _, type := _, pos := _, after := _, guard := _ }) (v := .bool (doO F fun j => h (k * 4 + j))) rfl (by kernel_rfl) (by kernel_rfl) (by kernel_rfl) (fun _ _ _ h => h) (Or.inl ⟨by rfl, by intro w hSw; clear hSw; go_simp; (try with_reducible rfl)⟩) (by assumption) ?_
          try simp only [Act.put, List.setIfInBounds_toArray, List.set_cons_zero, List.set_cons_succ]
          refine wpAnyH_ready (rs := [15]) (by kernel_rfl) (by simp) ?_
          refine AllReadyH.cons rfl (fun K hK => ?_) AllReadyH.nil
          have st1 := run_store_blk (P := Try.prog) (g := doB F fun j => h (k * 4 + j)) K8
          have ms1 : (mk 16 (doB F fun j => h (k * 4 + j))).size = 16 := mk_size 16 _
          go_simp
          clear st1 ms1
          have hgr : x2.grownBy (x2.setRow b8 (mk 16 (doB F fun j => h (k * 4 + j)))) (some b8) := grown_row K8 _
          have K1 := K1.rowOther b8 (mk 16 (doB F fun j => h (k * 4 + j))) (by have := HB9.out.1; omega)
          have CM := CM.grown hgr (fun e => by cases e; exact absurd HB9.out.2.1 (Nat.lt_irrefl _))
          have CO := CO.grown hgr (fun e => by cases e; exact absurd HB9.out.2.2 (Nat.lt_irrefl _))
          have BX : Hid (Below wr.heap.size wr (x2.setRow b8 (mk 16 (doB F fun j => h (k * 4 + j))))) := below_setRow BX.out HB8.out _
          have K8 := K8.row 16 (doB F fun j => h (k * 4 + j))
          clear hgr hHeld
          generalize x2.setRow b8 (mk 16 (doB F fun j => h (k * 4 + j))) = x3 at *
          refine hK.out _ _ ⟨CO, K1, CM⟩ (fun hHeld => ?_)
          clear hK K
          try simp only [Act.put, List.setIfInBounds_toArray, List.set_cons_zero, List.set_cons_succ]
          refine wpAnyH_take (i := 16) (oi := { dst := some 9, op := _, type := _, pos := _, after := _, guard := _ }) (v := .int .i64 (doS F fun j => h (k * 4 + j))) rfl (by kernel_rfl) (by kernel_rfl) (by kernel_rfl) (fun _ _ _ h => h) (Or.inl ⟨by rfl, by intro w hSw; clear hSw; go_simp; (try with_reducible rfl)⟩) (by assumption) ?_
          try simp only [Act.put, List.setIfInBounds_toArray, List.set_cons_zero, List.set_cons_succ]
          refine wpAnyH_take (i := 17) (oi := { dst := some 10, op := _, type := _, pos := _, after := _, guard := _ }) (v := .bool (doO F fun j => h (k * 4 + j))) rfl (by kernel_rfl) (by kernel_rfl) (by kernel_rfl) (fun _ _ _ h => h) (Or.inl ⟨by rfl, by intro w hSw; clear hSw; go_simp; (try with_reducible rfl)⟩) (by assumption) ?_
          try simp only [Act.put, List.setIfInBounds_toArray, List.set_cons_zero, List.set_cons_succ]
          refine wpAnyH_done (by kernel_rfl) ?_ _
          clear hHeld
          have HOs : Hid (OwnsL 26 16 x3 (w.heap.size + 1) (.slice (some ⟨gg, 0, none⟩) (k + 1) co) L) := owns_below HO.out BX.out
          have HB3 : Hid (Below w.heap.size w x3) := HB.out.trans (BX.out.mono HB.out.size)
          have hs3 := HB3.out.size
          have hs4 := K1.lt
          clear BX HB8 HB9 HO
          cases hO : doO F fun j => h (k * 4 + j) with
          | true =>
            have HN : Hid (pyN f h (k + 1) = k + 1) := pyN_yes HN.out (by rw [HF.out]; exact hO)
            have HMB : Hid (doB F (fun j => h (k * 4 + j)) = pyB f h (k + 1)) := by show _ = _; rw [← HF.out]; rfl
            have HMS : Hid (M + doS F (fun j => h (k * 4 + j)) = pyS f h (k + 1)) := by show _ = _; rw [← HF.out, ← HM.out]; rfl
            obtain ⟨hsc0, hsc1⟩ := doS_bd HV.out (fun j => h (k * 4 + j))
            generalize doS F (fun j => h (k * 4 + j)) = C at *
            generalize doB F (fun j => h (k * 4 + j)) = G at *
            clear hO
            have HLs : Hid (rbL f h (k + 1 + 1) = L ++ [cl 16 G]) := by show _ = _; rw [HMB.out, ← HL.out]; rfl
            go_wp2_with (first | ((with_reducible show wpList _ _ _ (Oper.mk _ (Op.load 26 _) _ _ _ _ :: _) _ _); refine loadB (K8) rfl rfl rfl ?_) | ((with_reducible show wpList _ _ _ (Oper.mk _ (Op.buildSlice _ 1 _) _ _ _ _ :: _) _ _); refine wpl_buildB _ rfl rfl (f := G) rfl ?_) | (at_builtin; refine wpl_app (v := .slice (some ⟨gg, 0, none⟩) (k + 1) co) rfl _ _ 119 rfl (w.heap.size + 1) 26 i0 _ 16 128 Try.underlying119 hi hz0 hz1 hz2 rfl (by decide) rfl (OwnsL.cast HLN.out (OwnsL.alloc HOs.out _)) x3.heap.size 0 1 1 G 16 rfl (Blk.new _ _ _ _).at (by omega) (by unfold maxLen; omega) (by omega) (by simp; omega) ?_))
            intro v' w7 R hbl hgr hloc
            have hlt := HOs.out.lt gg rfl
            have HO7 : Hid (OwnsL 26 16 w7 (w.heap.size + 1) v' (rbL f h (k + 1 + 1))) := by
              rw [snoc_walk (m := 16) _ G] at R
              show w7.ownsRow _ _ _ _ _ _
              rw [rbL_len, HLs.out]
              exact R
            obtain ⟨g', cap', hv'⟩ := ownsRow_succ R
            have HVv : Hid (∃ gg cap, v' = .slice (some ⟨gg, 0, none⟩) (k + 1 + 1) cap) := ⟨g', cap', hv'⟩
            have HB7 : Hid (Below w.heap.size w w7) := (HB3.out.alloc hs3 _).trans (hbl.mono (Nat.le_succ _))
            have K1 := (K1.alloc (.cells (mk 16 G) 26)).below hbl (Nat.lt_succ_self _)
            clear hbl hgr R hv' HOs hloc HB hlt CO CM
            go_wp2_with fail
            go_roundg gk2
            case rel => exact ⟨k + 1, _, by omega, by go_num, by rw [← HMS.out], rfl, HVv.out, HN, HO7, K1, HB7⟩
            case measure => omega
          | false =>
            have HE : Hid (¬ RpOk f h n) := fun q => by
              have := (py_down q.2.2 k (by omega)).2 (by omega)
              rw [HF.out] at this
              simp [doO] at hO
              exact hO this
            clear hO
            have HOm : Hid (OwnsL 26 16 (x3.alloc (.cells #[] 26)) w.heap.size (.slice (some ⟨x3.heap.size, 0, none⟩) 0 0) []) := OwnsL.made x3 hs3
            have HBm : Hid (Below w.heap.size w (x3.alloc (.cells #[] 26))) := HB3.out.alloc hs3 _
            go_wp2_with fail
            go_ret3
            rw [rsc_no HE.out, rplO_no HE.out]
            unfold rbR
            rw [if_neg HE.out]
            exact ⟨_, rfl, ⟨_, _, rfl⟩, HOm.out, HBm.out⟩
    · have HE : Hid (¬ RpOk f h n) := fun q => h40 q.2.1
      have hn40 : (40 : Int) < (n : Int) := by omega
      have HV := Lib.hid hV
      clear hV
      go_enter Try.func161, Try.ntmps161
      go_wp2_with ((with_reducible show wpList _ _ _ (Oper.mk _ (Op.load 26 _) _ _ _ _ :: _) _ _); refine loadRB (K1) rfl rfl rfl ?_)
      refine (l2Board_yes _ _ HV.out).mono ?_
      rintro e w1 ⟨rfl, hb⟩
      have K1 := K1.below hb K1.lt
      have c16 := K1.last
      have HB : Hid (Below w.heap.size w w1) := HB0.out.trans (hb.mono HB0.out.size)
      clear HB0
      have hs3 := HB.out.size
      have HOm : Hid (OwnsL 26 16 (w1.alloc (.cells #[] 26)) w.heap.size (.slice (some ⟨w1.heap.size, 0, none⟩) 0 0) []) := OwnsL.made w1 hs3
      have HBm : Hid (Below w.heap.size w (w1.alloc (.cells #[] 26))) := HB.out.alloc hs3 _
      clear hb
      go_wp2_with fail
      go_ret3
      rw [rsc_no HE.out, rplO_no HE.out]
      unfold rbR
      rw [if_neg HE.out]
      exact ⟨_, rfl, ⟨_, _, rfl⟩, HOm.out, HBm.out⟩
  · have HE : Hid (¬ RpOk f h n) := fun q => hV q.1
    have HV := Lib.hid hV
    clear hV
    go_enter Try.func161, Try.ntmps161
    go_wp2_with ((with_reducible show wpList _ _ _ (Oper.mk _ (Op.load 26 _) _ _ _ _ :: _) _ _); refine loadRB (K1) rfl rfl rfl ?_)
    refine (l2Board_no _ _ HV.out).mono ?_
    rintro e w1 ⟨rfl, hb⟩
    have K1 := K1.below hb K1.lt
    have c16 := K1.last
    have HB : Hid (Below w.heap.size w w1) := HB0.out.trans (hb.mono HB0.out.size)
    clear HB0
    have hs3 := HB.out.size
    have HOm : Hid (OwnsL 26 16 (w1.alloc (.cells #[] 26)) w.heap.size (.slice (some ⟨w1.heap.size, 0, none⟩) 0 0) []) := OwnsL.made w1 hs3
    have HBm : Hid (Below w.heap.size w (w1.alloc (.cells #[] 26))) := HB.out.alloc hs3 _
    clear hb
    go_wp2_with fail
    go_ret3
    rw [rsc_no HE.out, rplO_no HE.out]
    unfold rbR
    rw [if_neg HE.out]
    exact ⟨_, rfl, ⟨_, _, rfl⟩, HOm.out, HBm.out⟩
end Go.Proofs.Ytfjpdopljmilpaa
