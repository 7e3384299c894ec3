/-
  The contract of the reference's DistinctMoves, for every board.
-/
import Derived.Test.YtpiegllffkjneaaDistKit
import Derived.Test.YtpiegllffkjneaaFirstForm
import Derived.Test.YtpiegllffkjneaaSpecAdd
import Derived.Test.YtpiegllffkjneaaOver
namespace Go.Proofs.Ytpiegllffkjneaa
open Go.RowKit Plain
attribute [local go_sem] store_new
set_option linter.unusedVariables false
set_option linter.unusedSimpArgs false

theorem wp_allocB {w : World} {o : Oper} {a : Act} {K : Act → World → Prop} {Q : Exit → Act → World → Prop} (ho : o.op = .alloc 27)
    (h : K (a.put o.dst (.pointer (some ⟨w.heap.size, 0, none⟩))) (w.alloc (.cells (mk 16 fun _ => 0) 27))) : o.wp Try.prog a w K Q := by
  have z16 := zero16
  unfold Oper.wp
  go_simp
  exact h
theorem grownBy_setRow {w : World} {b n : Nat} {f : Nat → Int} {t : TypeId} (k : Blk w b n f t) (cs : Array Value) : w.grownBy (w.setRow b cs) (some b) := by
  refine ⟨rfl, rfl, rfl, ?_, fun j hj hne => ?_⟩
  · simp [World.setRow]
  · exact setRow_other w b j cs (fun e => hne (by rw [e]))

set_option maxHeartbeats 8000000 in
set_option maxRecDepth 100000 in
theorem specDist_any (f : Nat → Int) (w : World) :
    Calls Try.prog 22 #[.agg (mk 16 f)] w fun e w' => ∃ g cap, e = .returned (.tuple #[.slice (some ⟨g, 0, none⟩) (dmR f).length cap, .bool (vdO f)]) ∧
      OwnsInts w' w.heap.size (.slice (some ⟨g, 0, none⟩) (dmR f).length cap) (dmR f) ∧ Below w.heap.size w w' := by
  obtain ⟨i0, hi, hz0, hz1, hz2⟩ := info_parts infoInt
  have K1 := ((Blk.new w 16 f 27).alloc (.cells #[] 3)).alloc (.cells #[] 27)
  have h1 : (w.alloc (.cells (mk 16 f) 27)).heap.size = w.heap.size + 1 := by simp
  have h2 : ((w.alloc (.cells (mk 16 f) 27)).alloc (.cells #[] 3)).heap.size = w.heap.size + 1 + 1 := by simp
  have HB := Lib.hid ((((Below.refl w.heap.size w).alloc (Nat.le_refl _) (.cells (mk 16 f) 27)).alloc (by simp) (.cells #[] 3)).alloc (by simp; omega) (.cells #[] 27))
  have HO : Hid (OwnsInts (((w.alloc (.cells (mk 16 f) 27)).alloc (.cells #[] 3)).alloc (.cells #[] 27)) w.heap.size (.slice (some ⟨w.heap.size + 1, 0, none⟩) 0 0) []) := by
    have := World.ownsRow_made (base := w.heap.size) (e := 3) (size := 1) (w.alloc (.cells (mk 16 f) 27)) #[] 0 (by simp) (by decide) rfl
    rw [h1] at this
    exact World.ownsRow.alloc this _
  have HU : Hid (OwnsL 27 16 (((w.alloc (.cells (mk 16 f) 27)).alloc (.cells #[] 3)).alloc (.cells #[] 27)) w.heap.size (.slice (some ⟨w.heap.size + 1 + 1, 0, none⟩) 0 0) []) := by
    have := OwnsL.made (t := 27) (m := 16) (b := w.heap.size) ((w.alloc (.cells (mk 16 f) 27)).alloc (.cells #[] 3)) (by simp; omega)
    rw [h2] at this
    exact this
  clear h1 h2
  by_cases hV : Vd f
  · have HM := l2Moves_any f
    rw [dmR_yes hV, vdO_yes hV]
    have HV := Lib.hid hV
    clear hV
    have HME := Lib.hid (movL_mem f 4)
    have hn := movL_le f 4
    generalize hMM : movL f 4 = M at *
    generalize hN : M.length = n at *
    clear hMM
    go_enter Try.func22, Try.ntmps22
    go_wp2_with ((with_reducible show wpList _ _ _ (Oper.mk _ (Op.load 27 _) _ _ _ _ :: _) _ _); refine loadB (K1) rfl rfl rfl ?_)
    refine (l2Board_yes _ _ HV.out).mono ?_
    rintro e w1 ⟨rfl, hb⟩
    have K1 := K1.below hb K1.lt
    have HU : Hid (OwnsL 27 16 w1 w.heap.size (.slice (some ⟨w.heap.size + 1 + 1, 0, none⟩) 0 0) []) := HU.out.below hb
    have HO : Hid (OwnsInts w1 w.heap.size (.slice (some ⟨w.heap.size + 1, 0, none⟩) 0 0) []) := owns_below HO.out hb
    have HB : Hid (Below w.heap.size w w1) := HB.out.trans (hb.mono HB.out.size)
    clear hb
    go_wp2_with ((with_reducible show wpList _ _ _ (Oper.mk _ (Op.load 27 _) _ _ _ _ :: _) _ _); refine loadB (K1) rfl rfl rfl ?_)
    refine (HM _ HV.out).mono ?_
    clear HM
    rintro e w2 ⟨gm, cm, rfl, hom, hb⟩
    have K1 := K1.below hb K1.lt
    have HNE : Hid ((Value.slice (some ⟨w.heap.size + 1, 0, none⟩) 0 0).ownBlock ≠ some gm) := by
      have h3 := (hom.lt gm rfl).1
      have h4 := (HO.out.lt (w.heap.size + 1) rfl).2
      show _ ≠ _
      simp only [Value.ownBlock]
      intro e
      simp only [Option.some.injEq] at e
      omega
    have HU : Hid (OwnsL 27 16 w2 w.heap.size (.slice (some ⟨w.heap.size + 1 + 1, 0, none⟩) 0 0) []) := HU.out.below hb
    have HO : Hid (OwnsInts w2 w.heap.size (.slice (some ⟨w.heap.size + 1, 0, none⟩) 0 0) []) := owns_below HO.out hb
    have HB : Hid (Below w.heap.size w w2) := HB.out.trans (hb.mono HB.out.size)
    have CM : CAt w2 gm n (fun i => M.getD i 0) := by rw [← hN] at hom ⊢; exact CAt.of_ints hom
    clear hb hom
    have HMF : Hid (∀ k d, M[k]? = some d → (fun i => M.getD i 0) k = d) := fun k d h => by simp [List.getD, h]
    generalize (fun i => M.getD i 0) = mf at *
    go_wp2_with fail
    go_loopg [4, 5, 7] n (fun gk s4 s5 s7 wr => ∃ (k : Nat) (v u : Value), k + gk = n ∧ s7 = .int .i64 k ∧ v = s4 ∧ u = s5 ∧ (∃ gg cap, v = .slice (some ⟨gg, 0, none⟩) (dm f M k).2.length cap) ∧ (∃ gu cu, u = .slice (some ⟨gu, 0, none⟩) (di f M k).length cu) ∧ Hid (OwnsInts wr w.heap.size v (dm f M k).2) ∧ Hid (v.ownBlock ≠ some gm) ∧ Hid (OwnsL 27 16 wr w.heap.size u (di f M k)) ∧ CAt wr gm n mf ∧ Blk wr w.heap.size 16 f 27 ∧ Hid (Below w.heap.size w wr))
    case atStart => exact ⟨0, _, _, by omega, rfl, rfl, rfl, ⟨_, _, rfl⟩, ⟨_, _, rfl⟩, HO, HNE, HU, CM, K1, HB⟩
    case round =>
      obtain ⟨k, v, u, hkg, rfl, rfl, rfl, ⟨gg, cap, hv⟩, ⟨gu, cu, hu⟩, HO, HNE, HU, CM, K1, HB⟩ := hrel
      subst hv hu
      cases gk with
      | zero =>
        have hk : ¬ ((k : Int) < (n : Int)) := by omega
        obtain rfl : k = n := by omega
        clear hkg
        go_wp2_with fail
        go_ret2
        exact ⟨gg, cap, rfl, HO.out, HB.out⟩
      | succ gk2 =>
        have hk8 : (k : Int) < (n : Int) := by omega
        have hk9 : k < n := by omega
        have hk0 : (0 : Int) ≤ (k : Int) := by omega
        obtain ⟨d, hkd⟩ : ∃ d, M[k]? = some d := ⟨M[k]'(by omega), List.getElem?_eq_getElem _⟩
        obtain ⟨q, hq4, rfl⟩ := HME.out d (List.mem_of_getElem? hkd)
        have HMQ := Lib.hid (HMF.out k _ hkd)
        have HKD := Lib.hid hkd
        clear hkd
        have q0 : (0 : Int) ≤ (q : Int) := by omega
        have q3 : (q : Int) ≤ 3 := by omega
        go_wp2_with fail
        refine wp_region_held_drew (S := fun W => Blk W w.heap.size 16 f 27 ∧ CAt W gm n mf) (by kernel_rfl) (⟨K1.drew, CM.drew⟩) (fun hHeld => ?_)
        have K1 : Blk wr.drew w.heap.size 16 f 27 := K1.drew
        have CM : CAt wr.drew gm n mf := CM.drew
        have HU : Hid (OwnsL 27 16 wr.drew w.heap.size (.slice (some ⟨gu, 0, none⟩) (di f M k).length cu) (di f M k)) := HU.out
        have HO : Hid (OwnsInts wr.drew w.heap.size (.slice (some ⟨gg, 0, none⟩) (dm f M k).2.length cap) (dm f M k).2) := HO.out
        have HB : Hid (Below w.heap.size w wr.drew) := HB.out.drew
        generalize wr.drew = x0 at *
        refine wpAnyH_take (i := 0) (oi := { dst := some 28, op := _, type := _, pos := _, after := _, guard := _ }) (v := .agg (mk 16 f)) rfl (by kernel_rfl) (by kernel_rfl) (by kernel_rfl) (fun _ _ _ h => h) (Or.inl ⟨by rfl, fun _ q => execB q.1 rfl rfl⟩) (by assumption) ?_
        try simp only [Act.put, List.setIfInBounds_toArray, List.set_cons_zero, List.set_cons_succ]
        refine wpAnyH_take (i := 1) (oi := { dst := some 29, op := _, type := _, pos := _, after := _, guard := _ }) (v := .slice (some ⟨gm, 0, none⟩) n cm) rfl (by kernel_rfl) (by kernel_rfl) (by kernel_rfl) (fun _ _ _ h => h) (Or.inl ⟨by rfl, by intro w hSw; clear hSw; go_simp; (try with_reducible rfl)⟩) (by assumption) ?_
        try simp only [Act.put, List.setIfInBounds_toArray, List.set_cons_zero, List.set_cons_succ]
        refine wpAnyH_take (i := 2) (oi := { dst := some 30, op := _, type := _, pos := _, after := _, guard := _ }) (v := .int .i64 (k : Int)) rfl (by kernel_rfl) (by kernel_rfl) (by kernel_rfl) (fun _ _ _ h => h) (Or.inl ⟨by rfl, by intro w hSw; clear hSw; go_simp; (try with_reducible rfl)⟩) (by assumption) ?_
        try simp only [Act.put, List.setIfInBounds_toArray, List.set_cons_zero, List.set_cons_succ]
        refine wpAnyH_take (i := 3) (oi := { dst := some 31, op := _, type := _, pos := _, after := _, guard := _ }) (v := .pointer (some ⟨gm, k, none⟩)) rfl (by kernel_rfl) (by kernel_rfl) (by kernel_rfl) (fun _ _ _ h => h) (Or.inl ⟨by rfl, by intro w hSw; clear hSw; go_simp; (try with_reducible rfl)⟩) (by assumption) ?_
        try simp only [Act.put, List.setIfInBounds_toArray, List.set_cons_zero, List.set_cons_succ]
        refine wpAnyH_take (i := 4) (oi := { dst := some 32, op := _, type := _, pos := _, after := _, guard := _ }) (v := .int .i64 (q : Int)) rfl (by kernel_rfl) (by kernel_rfl) (by kernel_rfl) (fun _ _ _ h => h) (Or.inl ⟨by rfl, by intro W hSw; have c1 := hSw.2.2 k (by omega); rw [HMQ.out] at c1; clear hSw; go_simp⟩) (by assumption) ?_
        try simp only [Act.put, List.setIfInBounds_toArray, List.set_cons_zero, List.set_cons_succ]
        refine wpAnyH_ready (rs := [5, 9]) (by kernel_rfl) (by simp) ?_
        refine AllReadyH.cons rfl (fun K hK => ?_) ?_
        · go_simp
          refine (l2Slide_nat f q _ HV.out q0 q3).mono ?_
          rintro e x1 ⟨rfl, hb⟩
          have CM := CM.below hb
          have K1 := K1.below hb K1.lt
          have HU : Hid (OwnsL 27 16 x1 w.heap.size (.slice (some ⟨gu, 0, none⟩) (di f M k).length cu) (di f M k)) := HU.out.below hb
          have HO : Hid (OwnsInts x1 w.heap.size (.slice (some ⟨gg, 0, none⟩) (dm f M k).2.length cap) (dm f M k).2) := owns_below HO.out hb
          have HB : Hid (Below w.heap.size w x1) := HB.out.trans (hb.mono HB.out.size)
          clear hb hHeld
          go_wp2_with fail
          refine hK.out _ _ ⟨K1, CM⟩ (fun hHeld => ?_)
          clear hK K
          try simp only [Act.put, List.setIfInBounds_toArray, List.set_cons_zero, List.set_cons_succ]
          refine wpAnyH_take (i := 6) (oi := { dst := some 27, op := _, type := _, pos := _, after := _, guard := _ }) (v := .tuple #[.agg (mk 16 (slideB f q)), .int .i64 (slideS f q 4)]) rfl (by kernel_rfl) (by kernel_rfl) (by kernel_rfl) (fun _ _ _ h => h) (Or.inl ⟨by rfl, by intro w hSw; clear hSw; go_simp; (try with_reducible rfl)⟩) (by assumption) ?_
          try simp only [Act.put, List.setIfInBounds_toArray, List.set_cons_zero, List.set_cons_succ]
          refine wpAnyH_take (i := 7) (oi := { dst := some 34, op := _, type := _, pos := _, after := _, guard := _ }) (v := .agg (mk 16 (slideB f q))) rfl (by kernel_rfl) (by kernel_rfl) (by kernel_rfl) (fun _ _ _ h => h) (Or.inl ⟨by rfl, by intro w hSw; clear hSw; go_simp; (try with_reducible rfl)⟩) (by assumption) ?_
          try simp only [Act.put, List.setIfInBounds_toArray, List.set_cons_zero, List.set_cons_succ]
          refine wpAnyH_take (i := 8) (oi := { dst := some 35, op := _, type := _, pos := _, after := _, guard := _ }) (v := .int .i64 (slideS f q 4)) rfl (by kernel_rfl) (by kernel_rfl) (by kernel_rfl) (fun _ _ _ h => h) (Or.inl ⟨by rfl, by intro w hSw; clear hSw; go_simp; (try with_reducible rfl)⟩) (by assumption) ?_
          try simp only [Act.put, List.setIfInBounds_toArray, List.set_cons_zero, List.set_cons_succ]
          refine wpAnyH_ready (rs := [9]) (by kernel_rfl) (by simp) ?_
          refine AllReadyH.cons rfl (fun K hK => ?_) AllReadyH.nil
          rw [if_pos (by rfl)]
          refine wp_allocB rfl ?_
          have HUb : Hid ((Value.slice (some ⟨gu, 0, none⟩) (di f M k).length cu).ownBlock ≠ some x1.heap.size) := by
            have := (HU.out.lt gu rfl).2
            show _ ≠ _
            simp only [Value.ownBlock]
            intro e; cases e; omega
          have K8 := Blk.new x1 16 (fun _ => 0) 27
          have K1b := K1
          have CMb := CM
          have K1 := K1.alloc (.cells (mk 16 fun _ => 0) 27)
          have CM := CM.alloc (.cells (mk 16 fun _ => 0) 27)
          have HU : Hid (OwnsL 27 16 (x1.alloc (.cells (mk 16 fun _ => 0) 27)) w.heap.size (.slice (some ⟨gu, 0, none⟩) (di f M k).length cu) (di f M k)) := HU.out.alloc _
          have HO : Hid (OwnsInts (x1.alloc (.cells (mk 16 fun _ => 0) 27)) w.heap.size (.slice (some ⟨gg, 0, none⟩) (dm f M k).2.length cap) (dm f M k).2) := World.ownsRow.alloc HO.out _
          have HB : Hid (Below w.heap.size w (x1.alloc (.cells (mk 16 fun _ => 0) 27))) := HB.out.alloc HB.out.size _
          clear hHeld
          have HB8 : Hid (w.heap.size < x1.heap.size ∧ gm < x1.heap.size) := ⟨by have := K1b.lt; omega, by have := CMb.1; omega⟩
          clear K1b CMb
          generalize x1.alloc (.cells (mk 16 fun _ => 0) 27) = x2 at *
          generalize x1.heap.size = b8 at *
          refine hK.out _ _ ⟨K1, CM⟩ (fun hHeld => ?_)
          clear hK K
          try simp only [Act.put, List.setIfInBounds_toArray, List.set_cons_zero, List.set_cons_succ]
          refine wpAnyH_ready (rs := [10]) (by kernel_rfl) (by simp) ?_
          refine AllReadyH.cons rfl (fun K hK => ?_) AllReadyH.nil
          have st1 := run_store_blk (P := Try.prog) (g := slideB f q) K8
          have ms1 : (mk 16 (slideB f q)).size = 16 := mk_size 16 (slideB f q)
          go_simp
          clear st1 ms1
          have hgr : x2.grownBy (x2.setRow b8 (mk 16 (slideB f q))) (some b8) := grownBy_setRow K8 _
          have K1 := K1.rowOther b8 (mk 16 (slideB f q)) (by have := HB8.out.1; omega)
          have CM := CM.grown hgr (fun e => by cases e; exact absurd HB8.out.2 (Nat.lt_irrefl _))
          have HU : Hid (OwnsL 27 16 (x2.setRow b8 (mk 16 (slideB f q))) w.heap.size (.slice (some ⟨gu, 0, none⟩) (di f M k).length cu) (di f M k)) := World.ownsRow.kept HU.out hgr (Or.inr HUb.out)
          have HO : Hid (OwnsInts (x2.setRow b8 (mk 16 (slideB f q))) w.heap.size (.slice (some ⟨gg, 0, none⟩) (dm f M k).2.length cap) (dm f M k).2) := World.ownsRow.kept HO.out hgr (Or.inr (own_ne_blk HO.out K8 (by decide)))
          have HB : Hid (Below w.heap.size w (x2.setRow b8 (mk 16 (slideB f q)))) := below_setRow HB.out (by have := HB8.out.1; omega) _
          have K8 := K8.row 16 (slideB f q)
          clear hgr hHeld
          generalize x2.setRow b8 (mk 16 (slideB f q)) = x6 at *
          refine hK.out _ _ ⟨K1, CM⟩ (fun hHeld => ?_)
          clear hK K
          try simp only [Act.put, List.setIfInBounds_toArray, List.set_cons_zero, List.set_cons_succ]
          refine wpAnyH_take (i := 11) (oi := { dst := some 9, op := _, type := _, pos := _, after := _, guard := _ }) (v := .int .i64 (slideS f q 4)) rfl (by kernel_rfl) (by kernel_rfl) (by kernel_rfl) (fun _ _ _ h => h) (Or.inl ⟨by rfl, by intro w hSw; clear hSw; go_simp; (try with_reducible rfl)⟩) (by assumption) ?_
          try simp only [Act.put, List.setIfInBounds_toArray, List.set_cons_zero, List.set_cons_succ]
          refine wpAnyH_done (by kernel_rfl) ?_ _
          clear hHeld
          go_wp2_with ((with_reducible show wpList _ _ _ (Oper.mk _ (Op.load 27 _) _ _ _ _ :: _) _ _); refine loadB (K8) rfl rfl rfl ?_)
          refine (l3First_any (slideB f q) _).mono ?_
          rintro e w5 ⟨rfl, hb⟩
          have CM := CM.below hb
          have K1 := K1.below hb K1.lt
          have HU : Hid (OwnsL 27 16 w5 w.heap.size (.slice (some ⟨gu, 0, none⟩) (di f M k).length cu) (di f M k)) := HU.out.below hb
          have HO : Hid (OwnsInts w5 w.heap.size (.slice (some ⟨gg, 0, none⟩) (dm f M k).2.length cap) (dm f M k).2) := owns_below HO.out hb
          have HB : Hid (Below w.heap.size w w5) := HB.out.trans (hb.mono HB.out.size)
          clear hb K8
          have HFF : Hid (ffs f (q : Int) = cl 16 (fstF (slideB f q))) := by show _ = _; simp [ffs]
          generalize fstF (slideB f q) = G at *
          have z16 := zero16
          have K10 := Blk.new w5 16 G 27
          have K1 := K1.alloc (.cells (mk 16 G) 27)
          have CM := CM.alloc (.cells (mk 16 G) 27)
          have HU : Hid (OwnsL 27 16 (w5.alloc (.cells (mk 16 G) 27)) w.heap.size (.slice (some ⟨gu, 0, none⟩) (di f M k).length cu) (di f M k)) := HU.out.alloc _
          have HO : Hid (OwnsInts (w5.alloc (.cells (mk 16 G) 27)) w.heap.size (.slice (some ⟨gg, 0, none⟩) (dm f M k).2.length cap) (dm f M k).2) := World.ownsRow.alloc HO.out _
          have HB : Hid (Below w.heap.size w (w5.alloc (.cells (mk 16 G) 27))) := HB.out.alloc HB.out.size _
          go_wp2_with ((with_reducible show wpList _ _ _ (Oper.mk _ (Op.load 27 _) _ _ _ _ :: _) _ _); refine loadB (K10) rfl rfl rfl ?_)
          generalize w5.alloc (.cells (mk 16 G) 27) = w6 at *
          have hdl := di_le f M k
          refine (l3Add_any gu cu w.heap.size (di f M k) G _ (di_len f M k) (by omega) HU.out).mono ?_
          rintro e w7 ⟨gx, cx, rfl, hox, hb⟩
          have hs : insL (lt 16) (di f M k) (cl 16 G) = di f M (k + 1) := by rw [di_step HKD.out, HFF.out]
          rw [hs] at hox ⊢
          have HX : Hid (OwnsL 27 16 w7 w.heap.size (.slice (some ⟨gx, 0, none⟩) (di f M (k + 1)).length cx) (di f M (k + 1))) := hox
          have CM := CM.below hb
          have K1 := K1.below hb K1.lt
          have HU : Hid (OwnsL 27 16 w7 w.heap.size (.slice (some ⟨gu, 0, none⟩) (di f M k).length cu) (di f M k)) := HU.out.below hb
          have HO : Hid (OwnsInts w7 w.heap.size (.slice (some ⟨gg, 0, none⟩) (dm f M k).2.length cap) (dm f M k).2) := owns_below HO.out hb
          have HB : Hid (Below w.heap.size w w7) := HB.out.trans (hb.mono HB.out.size)
          have K10 := K10.below hb K10.lt
          clear hb hox hs
          by_cases hd : ffs f (q : Int) ∈ (dm f M k).1
          · have Y : Hid (dm f M (k + 1) = dm f M k) := dm_yes HKD.out hd
            have Z : Hid (di f M (k + 1) = di f M k) := (di_more HKD.out).1 hd
            clear hd
            have hlen : ¬ (((di f M k).length : Int) < ((di f M (k + 1)).length : Int)) := by rw [Z.out]; omega
            go_wp2_with fail
            go_roundg gk2
            case rel => exact ⟨k + 1, _, _, by omega, by go_num, rfl, rfl, ⟨gg, cap, by rw [Y.out]⟩, ⟨gu, cu, by rw [Z.out]⟩, by rw [Y.out]; exact HO, HNE, by rw [Z.out]; exact HU, CM, K1, HB⟩
            case measure => omega
          · have Y : Hid (dm f M (k + 1) = ((dm f M k).1 ++ [ffs f (q : Int)], (dm f M k).2 ++ [(q : Int)])) := dm_no HKD.out hd
            have Z : Hid ((di f M (k + 1)).length = (di f M k).length + 1) := (di_more HKD.out).2 hd
            clear hd
            have hlen : ((di f M k).length : Int) < ((di f M (k + 1)).length : Int) := by rw [Z.out]; omega
            have c1 := CM.2 k (by omega)
            rw [HMQ.out] at c1
            have hle := dm_le f M k
            have hle4 : (dm f M k).2.length ≤ 4 := by omega
            clear hle
            have ho0 : w7.ownsRow w.heap.size 3 1 (.slice (some ⟨gg, 0, none⟩) (dm f M k).2.length cap) (dm f M k).2.length ((dm f M k).2.map (Value.int .i64)) := HO.out
            have hbs := HB.out.size
            go_wp2_with (first | (at_builtin; refine wpList_append_own_at _ rfl _ _ 31 rfl w.heap.size 3 i0 (.int .i64 0) 1 8 Try.underlying31 hi hz0 hz1 hz2 rfl (by decide) _ _ _ rfl (ho0.alloc _) ⟨w7.heap.size, 0, none⟩ 1 1 [.int .i64 q] rfl rfl ?c1 ?c2 ?c3 ?c4 ?c5 ?_))
            case c1 =>
              have := cell_one_new w7 (.int .i64 q) 3
              simpa only [World.size_alloc] using this
            case c2 => simp [Value.oneCell']
            case c3 => unfold maxLen; omega
            case c4 => omega
            case c5 => simp; omega
            intro v' w8 hown' hgr _ hloc
            obtain ⟨g', cap', hv'⟩ := ownsRow_succ hown'
            have HVv : Hid (∃ gg cap, v' = .slice (some ⟨gg, 0, none⟩) (dm f M (k + 1)).2.length cap) := ⟨g', cap', by rw [Y.out, List.length_append]; exact hv'⟩
            have HX : Hid (OwnsL 27 16 w8 w.heap.size (.slice (some ⟨gx, 0, none⟩) (di f M (k + 1)).length cx) (di f M (k + 1))) := World.ownsRow.kept (HX.out.alloc (.cells #[.int .i64 q] 3)) hgr (own_ne_own (HX.out.alloc (.cells #[.int .i64 q] 3)) (ho0.alloc (.cells #[.int .i64 q] 3)) (by decide))
            have HB : Hid (Below w.heap.size w w8) := (HB.out.alloc hbs _).grown hgr (by simp; omega) (fun j hj => (ho0.lt j hj).1)
            have hne2 : (Value.slice (some ⟨gg, 0, none⟩) (dm f M k).2.length cap).ownBlock ≠ some gm := HNE.out
            have HNE2 : Hid (v'.ownBlock ≠ some gm) := by
              intro e
              have h9 := CM.1
              rcases hloc with r | r
              · rw [r] at e; exact hne2 e
              · rw [r] at e; simp at e; omega
            have CM := (CM.alloc (.cells #[.int .i64 q] 3)).grown hgr (fun e => hne2 e.symm)
            have K1 := (K1.alloc (.cells #[.int .i64 q] 3)).grown hgr (fun e => own_ne_blk (ho0.alloc (.cells #[.int .i64 q] 3)) (K1.alloc _) (by decide) e.symm)
            have HO : Hid (OwnsInts w8 w.heap.size v' (dm f M (k + 1)).2) := by
              show OwnsInts _ _ _ _
              unfold OwnsInts
              rw [Y.out, List.map_append, List.length_append]
              exact hown'
            clear hown' hgr hloc hv' ho0 hne2 HNE
            go_wp2_with fail
            go_roundg gk2
            case rel => exact ⟨k + 1, _, _, by omega, by go_num, rfl, rfl, HVv.out, ⟨gx, cx, rfl⟩, HO, HNE2, HX, CM, K1, HB⟩
            case measure => omega
        refine AllReadyH.cons rfl (fun K hK => ?_) AllReadyH.nil
        rw [if_pos (by rfl)]
        refine wp_allocB rfl ?_
        have HUb : Hid ((Value.slice (some ⟨gu, 0, none⟩) (di f M k).length cu).ownBlock ≠ some x0.heap.size) := by
          have := (HU.out.lt gu rfl).2
          show _ ≠ _
          simp only [Value.ownBlock]
          intro e; cases e; omega
        have K8 := Blk.new x0 16 (fun _ => 0) 27
        have K1b := K1
        have CMb := CM
        have K1 := K1.alloc (.cells (mk 16 fun _ => 0) 27)
        have CM := CM.alloc (.cells (mk 16 fun _ => 0) 27)
        have HU : Hid (OwnsL 27 16 (x0.alloc (.cells (mk 16 fun _ => 0) 27)) w.heap.size (.slice (some ⟨gu, 0, none⟩) (di f M k).length cu) (di f M k)) := HU.out.alloc _
        have HO : Hid (OwnsInts (x0.alloc (.cells (mk 16 fun _ => 0) 27)) w.heap.size (.slice (some ⟨gg, 0, none⟩) (dm f M k).2.length cap) (dm f M k).2) := World.ownsRow.alloc HO.out _
        have HB : Hid (Below w.heap.size w (x0.alloc (.cells (mk 16 fun _ => 0) 27))) := HB.out.alloc HB.out.size _
        clear hHeld
        have HB8 : Hid (w.heap.size < x0.heap.size ∧ gm < x0.heap.size) := ⟨by have := K1b.lt; omega, by have := CMb.1; omega⟩
        clear K1b CMb
        generalize x0.alloc (.cells (mk 16 fun _ => 0) 27) = x1 at *
        generalize x0.heap.size = b8 at *
        refine hK.out _ _ ⟨K1, CM⟩ (fun hHeld => ?_)
        clear hK K
        try simp only [Act.put, List.setIfInBounds_toArray, List.set_cons_zero, List.set_cons_succ]
        refine wpAnyH_ready (rs := [5]) (by kernel_rfl) (by simp) ?_
        refine AllReadyH.cons rfl (fun K hK => ?_) AllReadyH.nil
        go_simp
        refine (l2Slide_nat f q _ HV.out q0 q3).mono ?_
        rintro e x2 ⟨rfl, hb⟩
        have CM := CM.below hb
        have K1 := K1.below hb K1.lt
        have HU : Hid (OwnsL 27 16 x2 w.heap.size (.slice (some ⟨gu, 0, none⟩) (di f M k).length cu) (di f M k)) := HU.out.below hb
        have HO : Hid (OwnsInts x2 w.heap.size (.slice (some ⟨gg, 0, none⟩) (dm f M k).2.length cap) (dm f M k).2) := owns_below HO.out hb
        have HB : Hid (Below w.heap.size w x2) := HB.out.trans (hb.mono HB.out.size)
        have K8 := K8.below hb K8.lt
        clear hb hHeld
        go_wp2_with fail
        refine hK.out _ _ ⟨K1, CM⟩ (fun hHeld => ?_)
        clear hK K
        try simp only [Act.put, List.setIfInBounds_toArray, List.set_cons_zero, List.set_cons_succ]
        refine wpAnyH_take (i := 6) (oi := { dst := some 27, op := _, type := _, pos := _, after := _, guard := _ }) (v := .tuple #[.agg (mk 16 (slideB f q)), .int .i64 (slideS f q 4)]) rfl (by kernel_rfl) (by kernel_rfl) (by kernel_rfl) (fun _ _ _ h => h) (Or.inl ⟨by rfl, by intro w hSw; clear hSw; go_simp; (try with_reducible rfl)⟩) (by assumption) ?_
        try simp only [Act.put, List.setIfInBounds_toArray, List.set_cons_zero, List.set_cons_succ]
        refine wpAnyH_take (i := 7) (oi := { dst := some 34, op := _, type := _, pos := _, after := _, guard := _ }) (v := .agg (mk 16 (slideB f q))) rfl (by kernel_rfl) (by kernel_rfl) (by kernel_rfl) (fun _ _ _ h => h) (Or.inl ⟨by rfl, by intro w hSw; clear hSw; go_simp; (try with_reducible rfl)⟩) (by assumption) ?_
        try simp only [Act.put, List.setIfInBounds_toArray, List.set_cons_zero, List.set_cons_succ]
        refine wpAnyH_take (i := 8) (oi := { dst := some 35, op := _, type := _, pos := _, after := _, guard := _ }) (v := .int .i64 (slideS f q 4)) rfl (by kernel_rfl) (by kernel_rfl) (by kernel_rfl) (fun _ _ _ h => h) (Or.inl ⟨by rfl, by intro w hSw; clear hSw; go_simp; (try with_reducible rfl)⟩) (by assumption) ?_
        try simp only [Act.put, List.setIfInBounds_toArray, List.set_cons_zero, List.set_cons_succ]
        refine wpAnyH_ready (rs := [10]) (by kernel_rfl) (by simp) ?_
        refine AllReadyH.cons rfl (fun K hK => ?_) AllReadyH.nil
        have st1 := run_store_blk (P := Try.prog) (g := slideB f q) K8
        have ms1 : (mk 16 (slideB f q)).size = 16 := mk_size 16 (slideB f q)
        go_simp
        clear st1 ms1
        have hgr : x2.grownBy (x2.setRow b8 (mk 16 (slideB f q))) (some b8) := grownBy_setRow K8 _
        have K1 := K1.rowOther b8 (mk 16 (slideB f q)) (by have := HB8.out.1; omega)
        have CM := CM.grown hgr (fun e => by cases e; exact absurd HB8.out.2 (Nat.lt_irrefl _))
        have HU : Hid (OwnsL 27 16 (x2.setRow b8 (mk 16 (slideB f q))) w.heap.size (.slice (some ⟨gu, 0, none⟩) (di f M k).length cu) (di f M k)) := World.ownsRow.kept HU.out hgr (Or.inr HUb.out)
        have HO : Hid (OwnsInts (x2.setRow b8 (mk 16 (slideB f q))) w.heap.size (.slice (some ⟨gg, 0, none⟩) (dm f M k).2.length cap) (dm f M k).2) := World.ownsRow.kept HO.out hgr (Or.inr (own_ne_blk HO.out K8 (by decide)))
        have HB : Hid (Below w.heap.size w (x2.setRow b8 (mk 16 (slideB f q)))) := below_setRow HB.out (by have := HB8.out.1; omega) _
        have K8 := K8.row 16 (slideB f q)
        clear hgr hHeld
        generalize x2.setRow b8 (mk 16 (slideB f q)) = x6 at *
        refine hK.out _ _ ⟨K1, CM⟩ (fun hHeld => ?_)
        clear hK K
        try simp only [Act.put, List.setIfInBounds_toArray, List.set_cons_zero, List.set_cons_succ]
        refine wpAnyH_take (i := 11) (oi := { dst := some 9, op := _, type := _, pos := _, after := _, guard := _ }) (v := .int .i64 (slideS f q 4)) rfl (by kernel_rfl) (by kernel_rfl) (by kernel_rfl) (fun _ _ _ h => h) (Or.inl ⟨by rfl, by intro w hSw; clear hSw; go_simp; (try with_reducible rfl)⟩) (by assumption) ?_
        try simp only [Act.put, List.setIfInBounds_toArray, List.set_cons_zero, List.set_cons_succ]
        refine wpAnyH_done (by kernel_rfl) ?_ _
        clear hHeld
        go_wp2_with ((with_reducible show wpList _ _ _ (Oper.mk _ (Op.load 27 _) _ _ _ _ :: _) _ _); refine loadB (K8) rfl rfl rfl ?_)
        refine (l3First_any (slideB f q) _).mono ?_
        rintro e w5 ⟨rfl, hb⟩
        have CM := CM.below hb
        have K1 := K1.below hb K1.lt
        have HU : Hid (OwnsL 27 16 w5 w.heap.size (.slice (some ⟨gu, 0, none⟩) (di f M k).length cu) (di f M k)) := HU.out.below hb
        have HO : Hid (OwnsInts w5 w.heap.size (.slice (some ⟨gg, 0, none⟩) (dm f M k).2.length cap) (dm f M k).2) := owns_below HO.out hb
        have HB : Hid (Below w.heap.size w w5) := HB.out.trans (hb.mono HB.out.size)
        clear hb K8
        have HFF : Hid (ffs f (q : Int) = cl 16 (fstF (slideB f q))) := by show _ = _; simp [ffs]
        generalize fstF (slideB f q) = G at *
        have z16 := zero16
        have K10 := Blk.new w5 16 G 27
        have K1 := K1.alloc (.cells (mk 16 G) 27)
        have CM := CM.alloc (.cells (mk 16 G) 27)
        have HU : Hid (OwnsL 27 16 (w5.alloc (.cells (mk 16 G) 27)) w.heap.size (.slice (some ⟨gu, 0, none⟩) (di f M k).length cu) (di f M k)) := HU.out.alloc _
        have HO : Hid (OwnsInts (w5.alloc (.cells (mk 16 G) 27)) w.heap.size (.slice (some ⟨gg, 0, none⟩) (dm f M k).2.length cap) (dm f M k).2) := World.ownsRow.alloc HO.out _
        have HB : Hid (Below w.heap.size w (w5.alloc (.cells (mk 16 G) 27))) := HB.out.alloc HB.out.size _
        go_wp2_with ((with_reducible show wpList _ _ _ (Oper.mk _ (Op.load 27 _) _ _ _ _ :: _) _ _); refine loadB (K10) rfl rfl rfl ?_)
        generalize w5.alloc (.cells (mk 16 G) 27) = w6 at *
        have hdl := di_le f M k
        refine (l3Add_any gu cu w.heap.size (di f M k) G _ (di_len f M k) (by omega) HU.out).mono ?_
        rintro e w7 ⟨gx, cx, rfl, hox, hb⟩
        have hs : insL (lt 16) (di f M k) (cl 16 G) = di f M (k + 1) := by rw [di_step HKD.out, HFF.out]
        rw [hs] at hox ⊢
        have HX : Hid (OwnsL 27 16 w7 w.heap.size (.slice (some ⟨gx, 0, none⟩) (di f M (k + 1)).length cx) (di f M (k + 1))) := hox
        have CM := CM.below hb
        have K1 := K1.below hb K1.lt
        have HU : Hid (OwnsL 27 16 w7 w.heap.size (.slice (some ⟨gu, 0, none⟩) (di f M k).length cu) (di f M k)) := HU.out.below hb
        have HO : Hid (OwnsInts w7 w.heap.size (.slice (some ⟨gg, 0, none⟩) (dm f M k).2.length cap) (dm f M k).2) := owns_below HO.out hb
        have HB : Hid (Below w.heap.size w w7) := HB.out.trans (hb.mono HB.out.size)
        have K10 := K10.below hb K10.lt
        clear hb hox hs
        by_cases hd : ffs f (q : Int) ∈ (dm f M k).1
        · have Y : Hid (dm f M (k + 1) = dm f M k) := dm_yes HKD.out hd
          have Z : Hid (di f M (k + 1) = di f M k) := (di_more HKD.out).1 hd
          clear hd
          have hlen : ¬ (((di f M k).length : Int) < ((di f M (k + 1)).length : Int)) := by rw [Z.out]; omega
          go_wp2_with fail
          go_roundg gk2
          case rel => exact ⟨k + 1, _, _, by omega, by go_num, rfl, rfl, ⟨gg, cap, by rw [Y.out]⟩, ⟨gu, cu, by rw [Z.out]⟩, by rw [Y.out]; exact HO, HNE, by rw [Z.out]; exact HU, CM, K1, HB⟩
          case measure => omega
        · have Y : Hid (dm f M (k + 1) = ((dm f M k).1 ++ [ffs f (q : Int)], (dm f M k).2 ++ [(q : Int)])) := dm_no HKD.out hd
          have Z : Hid ((di f M (k + 1)).length = (di f M k).length + 1) := (di_more HKD.out).2 hd
          clear hd
          have hlen : ((di f M k).length : Int) < ((di f M (k + 1)).length : Int) := by rw [Z.out]; omega
          have c1 := CM.2 k (by omega)
          rw [HMQ.out] at c1
          have hle := dm_le f M k
          have hle4 : (dm f M k).2.length ≤ 4 := by omega
          clear hle
          have ho0 : w7.ownsRow w.heap.size 3 1 (.slice (some ⟨gg, 0, none⟩) (dm f M k).2.length cap) (dm f M k).2.length ((dm f M k).2.map (Value.int .i64)) := HO.out
          have hbs := HB.out.size
          go_wp2_with (first | (at_builtin; refine wpList_append_own_at _ rfl _ _ 31 rfl w.heap.size 3 i0 (.int .i64 0) 1 8 Try.underlying31 hi hz0 hz1 hz2 rfl (by decide) _ _ _ rfl (ho0.alloc _) ⟨w7.heap.size, 0, none⟩ 1 1 [.int .i64 q] rfl rfl ?c1 ?c2 ?c3 ?c4 ?c5 ?_))
          case c1 =>
            have := cell_one_new w7 (.int .i64 q) 3
            simpa only [World.size_alloc] using this
          case c2 => simp [Value.oneCell']
          case c3 => unfold maxLen; omega
          case c4 => omega
          case c5 => simp; omega
          intro v' w8 hown' hgr _ hloc
          obtain ⟨g', cap', hv'⟩ := ownsRow_succ hown'
          have HVv : Hid (∃ gg cap, v' = .slice (some ⟨gg, 0, none⟩) (dm f M (k + 1)).2.length cap) := ⟨g', cap', by rw [Y.out, List.length_append]; exact hv'⟩
          have HX : Hid (OwnsL 27 16 w8 w.heap.size (.slice (some ⟨gx, 0, none⟩) (di f M (k + 1)).length cx) (di f M (k + 1))) := World.ownsRow.kept (HX.out.alloc (.cells #[.int .i64 q] 3)) hgr (own_ne_own (HX.out.alloc (.cells #[.int .i64 q] 3)) (ho0.alloc (.cells #[.int .i64 q] 3)) (by decide))
          have HB : Hid (Below w.heap.size w w8) := (HB.out.alloc hbs _).grown hgr (by simp; omega) (fun j hj => (ho0.lt j hj).1)
          have hne2 : (Value.slice (some ⟨gg, 0, none⟩) (dm f M k).2.length cap).ownBlock ≠ some gm := HNE.out
          have HNE2 : Hid (v'.ownBlock ≠ some gm) := by
            intro e
            have h9 := CM.1
            rcases hloc with r | r
            · rw [r] at e; exact hne2 e
            · rw [r] at e; simp at e; omega
          have CM := (CM.alloc (.cells #[.int .i64 q] 3)).grown hgr (fun e => hne2 e.symm)
          have K1 := (K1.alloc (.cells #[.int .i64 q] 3)).grown hgr (fun e => own_ne_blk (ho0.alloc (.cells #[.int .i64 q] 3)) (K1.alloc _) (by decide) e.symm)
          have HO : Hid (OwnsInts w8 w.heap.size v' (dm f M (k + 1)).2) := by
            show OwnsInts _ _ _ _
            unfold OwnsInts
            rw [Y.out, List.map_append, List.length_append]
            exact hown'
          clear hown' hgr hloc hv' ho0 hne2 HNE
          go_wp2_with fail
          go_roundg gk2
          case rel => exact ⟨k + 1, _, _, by omega, by go_num, rfl, rfl, HVv.out, ⟨gx, cx, rfl⟩, HO, HNE2, HX, CM, K1, HB⟩
          case measure => omega
  · rw [dmR_no hV, vdO_no hV]
    have HV := Lib.hid hV
    clear hV
    go_enter Try.func22, Try.ntmps22
    go_wp2_with ((with_reducible show wpList _ _ _ (Oper.mk _ (Op.load 27 _) _ _ _ _ :: _) _ _); refine loadB (K1) rfl rfl rfl ?_)
    refine (l2Board_no _ _ HV.out).mono ?_
    rintro e w1 ⟨rfl, hb⟩
    have HO : Hid (OwnsInts w1 w.heap.size (.slice (some ⟨w.heap.size + 1, 0, none⟩) 0 0) []) := owns_below HO.out hb
    have HB : Hid (Below w.heap.size w w1) := HB.out.trans (hb.mono HB.out.size)
    clear hb
    go_wp2_with fail
    go_ret2
    exact ⟨_, _, rfl, HO.out, HB.out⟩
end Go.Proofs.Ytpiegllffkjneaa
