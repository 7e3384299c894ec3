/-
  The contracts of the program's IsReplay, replayBoards, BoardAt and ReplayScore.
-/
import Derived.Test.YtfjpdopljmilpaaRepSpec
import Derived.Test.YtfjpdopljmilpaaPlaySteps
namespace Go.Proofs.Ytfjpdopljmilpaa
open Go.RowKit Plain
attribute [local go_sem] store_new
set_option linter.unusedVariables false
set_option linter.unusedSimpArgs false
set_option maxHeartbeats 2000000 in
theorem implIs_any (f : Nat → Int) (v : Value) (n : Nat) (h : Nat → Int) (w : World) (hv : KRow 4 w v n h) (hn : n ≤ 1048576) :
    Calls Try.prog 28 #[.agg (rpl f v)] w fun e w' => e = .returned (.bool (rplO f h n)) ∧ Below w.heap.size w w' := by
  have K1 := Rp.new w f v 29
  have HB0 := Lib.hid ((Below.refl w.heap.size w).alloc (Nat.le_refl _) (.cells (rpl f v) 29))
  have HV := Lib.hid (hv.below ((Below.refl w.heap.size w).alloc (Nat.le_refl _) (.cells (rpl f v) 29)))
  have c16 := K1.last
  have z16 := zero16
  obtain ⟨g, cap, rfl, hle, hc⟩ := hv
  clear hc
  by_cases h40 : n ≤ 40
  · have HI := Lib.hid (rp_tells (f := f) (h := h) h40)
    have hn40 : ¬ ((40 : Int) < (n : Int)) := by omega
    go_enter Try.func28, Try.ntmps28
    go_wp2_with ((with_reducible show wpList _ _ _ (Oper.mk _ (Op.load 26 _) _ _ _ _ :: _) _ _); refine loadRB (K1) rfl rfl rfl ?_)
    refine (implPl_any f _ n h _ HV.out hn).mono ?_
    rintro e w1 ⟨rfl, hb⟩
    have HB := HB0.out.trans (hb.mono HB0.out.size)
    have K1 := (K1.below hb K1.lt).alloc (.cells (mk 16 (pyRB f h n)) 26)
    have HB : Hid (Below w.heap.size w (w1.alloc (.cells (mk 16 (pyRB f h n)) 26))) := HB.alloc HB.size _
    clear c16 hb HB0 HV
    have c16 := K1.last
    generalize pyRS f h n = S at *
    generalize pyRB f h n = PB at *
    cases hO : vdO f with
    | false =>
      have HE : Hid (rplO f h n = false) := rplO_no fun q => by rw [HI.out, hO] at q; cases q.1
      clear hO HI
      go_wp2_with fail
      go_ret
      exact ⟨by rw [HE.out]; rfl, HB.out⟩
    | true =>
      by_cases hN : pyRN f h n = (n : Int)
      · have HE : Hid (rplO f h n = true) := rplO_yes (HI.out.2 ⟨hO, hN⟩)
        have hb : (pyRN f h n == (n : Int)) = true := by rw [hN]; simp
        clear hO HI hN
        go_wp2_with fail
        go_ret
        exact ⟨by rw [HE.out]; rfl, HB.out⟩
      · have HE : Hid (rplO f h n = false) := rplO_no fun q => hN (HI.out.1 q).2
        have hb : (pyRN f h n == (n : Int)) = false := by simpa using hN
        clear hO HI hN
        go_wp2_with fail
        go_ret
        exact ⟨by rw [HE.out]; rfl, HB.out⟩
  · have HE : Hid (rplO f h n = false) := rplO_no fun q => h40 q.2.1
    have hn40 : (40 : Int) < (n : Int) := by omega
    go_enter Try.func28, Try.ntmps28
    go_wp2_with ((with_reducible show wpList _ _ _ (Oper.mk _ (Op.load 26 _) _ _ _ _ :: _) _ _); refine loadRB (K1) rfl rfl rfl ?_)
    go_ret
    exact ⟨by rw [HE.out]; rfl, HB0.out⟩
set_option maxHeartbeats 4000000 in
set_option maxRecDepth 20000 in
/-- The program's boards of a replay. -/
theorem repBoards_any (f : Nat → Int) (v : Value) (n : Nat) (h : Nat → Int) (w : World) (hv : KRow 4 w v n h) (hR : RpOk f h n) :
    Calls Try.prog 160 #[.agg (rpl f v)] w fun e w' => ∃ g cap, e = .returned (.slice (some ⟨g, 0, none⟩) (n + 1) cap) ∧
      OwnsL 26 16 w' w.heap.size (.slice (some ⟨g, 0, none⟩) (n + 1) cap) (rbL f h (n + 1)) ∧ Below w.heap.size w w' := by
  obtain ⟨i0, hi, hz0, hz1, hz2⟩ := info_parts infoB
  have K1 := Rp.new w f v 29
  have K1a := K1.alloc (.cells (mk 16 f) 26)
  have K3 := Blk.new (w.alloc (.cells (rpl f v) 29)) 16 f 26
  have K3 := K3.alloc (.cells (mk 16 f) 26)
  have K1b := K1a.alloc (.cells (mk 16 f) 26)
  have HB0 := Lib.hid ((((Below.refl w.heap.size w).alloc (Nat.le_refl _) (.cells (rpl f v) 29)).alloc (by simp) (.cells (mk 16 f) 26)).alloc (by simp; omega) (.cells (mk 16 f) 26))
  have HO0 : Hid (OwnsL 26 16 (((w.alloc (.cells (rpl f v) 29)).alloc (.cells (mk 16 f) 26)).alloc (.cells (mk 16 f) 26)) (w.heap.size + 2) (.slice (some ⟨w.heap.size + 1 + 1, 0, none⟩) 1 1) (rbL f h 1)) := by
    have := OwnsL.just (t := 26) (m := 16) (b := w.heap.size + 2) ((w.alloc (.cells (rpl f v) 29)).alloc (.cells (mk 16 f) 26)) f (by simp) (by decide)
    simp only [World.size_alloc] at this
    exact this
  simp only [World.size_alloc] at K3
  have z16 := zero16
  have z4 := zero4
  have c16 := K1b.last
  obtain ⟨g, cap, rfl, hle, hc⟩ := hv
  have hgw := hc.1
  have HC := Lib.hid hc
  have HR := Lib.hid hR
  have h40 := hR.2.1
  clear hc hR
  go_enter Try.func160, Try.ntmps160
  go_wp2_with (first | ((with_reducible show wpList _ _ _ (Oper.mk _ (Op.load 26 _) _ _ _ _ :: _) _ _); refine loadRB (K1) rfl rfl rfl ?_) | ((with_reducible show wpList _ _ _ (Oper.mk _ (Op.load 26 _) _ _ _ _ :: _) _ _); refine loadB (Blk.new _ 16 f _) rfl rfl rfl ?_) | ((with_reducible show wpList _ _ _ (Oper.mk _ (Op.buildSlice _ 1 _) _ _ _ _ :: _) _ _); refine wpl_buildB _ rfl rfl (f := f) rfl ?_))
  clear K1 K1a c16
  generalize ((w.alloc (.cells (rpl f (.slice (some ⟨g, 0, none⟩) n cap)) 29)).alloc (.cells (mk 16 f) 26)).alloc (.cells (mk 16 f) 26) = w2 at *
  go_loopg [4, 14] n (fun gk so si wr => ∃ (k : Nat) (u : Value), k + gk = n ∧ si = .int .i64 k ∧ u = so ∧ (∃ gg co, u = .slice (some ⟨gg, 0, none⟩) (k + 1) co) ∧ Hid (OwnsL 26 16 wr (w.heap.size + 2) u (rbL f h (k + 1))) ∧ Blk wr (w.heap.size + 1) 16 (pyB f h k) 26 ∧ Hid (Below w.heap.size w wr))
  case atStart => exact ⟨0, _, by omega, rfl, rfl, ⟨_, _, rfl⟩, HO0, K3, HB0⟩
  case round =>
    clear HO0 K3 HB0 K1b
    obtain ⟨k, u, hkg, rfl, rfl, ⟨gg, co, hu⟩, HO, K3, HB⟩ := hrel
    subst hu
    cases gk with
    | zero =>
      have hk : ¬ ((k : Int) < (n : Int)) := by omega
      obtain rfl : k = n := by omega
      clear hkg
      go_wp2_with fail
      go_ret
      exact ⟨_, _, rfl, HO.out.wide (by omega), HB.out⟩
    | succ gk2 =>
      have hk8 : (k : Int) < (n : Int) := by omega
      have hk9 : k < n := by omega
      have hk0 : (0 : Int) ≤ (k : Int) := by omega
      have CM : CAt wr g (n * 4) h := CAt.low HC.out HB.out HC.out.1
      have HVk := Lib.hid (HR.out.vd k)
      have hst : StepOk (pyB f h k) (stAt h k) := HR.out.step hk9
      have HDO := Lib.hid (implDo_any (pyB f h k) (stAt h k))
      rw [(doR_yes HVk.out).1, (doR_yes HVk.out).2.1, (doR_yes HVk.out).2.2] at HDO
      have HMB : Hid (doB (pyB f h k) (stAt h k) = pyB f h (k + 1)) := rfl
      have HLs : Hid (rbL f h (k + 1 + 1) = rbL f h (k + 1) ++ [cl 16 (doB (pyB f h k) (stAt h k))]) := rfl
      have HLN : Hid ((rbL f h (k + 1)).length = k + 1) := rbL_len f h _
      have hs1 := K3.lt
      have K3a := K3.alloc (.cells (mk 4 (stAt h k)) 52)
      have K10 := Blk.new wr 4 (stAt h k) 52
      clear hst
      generalize pyB f h k = F at *
      go_wp2_with (first | ((with_reducible show wpList _ _ _ (Oper.mk _ (Op.load 52 _) _ _ _ _ :: _) _ _); refine loadAT (CM) (by omega) rfl rfl rfl ?_) | ((with_reducible show wpList _ _ _ (Oper.mk _ (Op.load 26 _) _ _ _ _ :: _) _ _); refine loadB (K3a) rfl rfl rfl ?_) | ((with_reducible show wpList _ _ _ (Oper.mk _ (Op.load 52 _) _ _ _ _ :: _) _ _); refine loadT (K10) rfl rfl rfl ?_))
      refine (HDO.out _).mono ?_
      clear HDO
      rintro e w3 ⟨rfl, hb⟩
      have K3 := K3a.below hb K3a.lt
      have HB2 := HB.out.alloc HB.out.size (.cells (mk 4 (stAt h k)) 52)
      have HB2 : Hid (Below w.heap.size w w3) := HB2.trans (hb.mono HB2.size)
      have HOs : Hid (OwnsL 26 16 w3 (w.heap.size + 2) (.slice (some ⟨gg, 0, none⟩) (k + 1) co) (rbL f h (k + 1))) := (OwnsL.alloc HO.out _).below hb
      have hlt := HOs.out.lt gg rfl
      clear hb K3a K10 CM HO HB
      generalize doS F (stAt h k) = C at *
      generalize doO F (stAt h k) = O at *
      generalize doB F (stAt h k) = G at *
      have K3n := K3.row 16 G
      have HOt : Hid (OwnsL 26 16 (w3.setRow (w.heap.size + 1) (mk 16 G)) (w.heap.size + 2) (.slice (some ⟨gg, 0, none⟩) (k + 1) co) (rbL f h (k + 1))) := World.ownsRow.kept HOs.out (grown_row K3 _) (Or.inr (fun e => by have q : gg = w.heap.size + 1 := Option.some.inj e; omega))
      have HB3 : Hid (Below w.heap.size w (w3.setRow (w.heap.size + 1) (mk 16 G))) := below_setRow HB2.out (by omega) _
      have hs3 := HB3.out.size
      have hs4 := K3n.lt
      clear HOs HB2
      go_wp2_with (first | ((with_reducible show wpList _ _ _ (Oper.mk _ (Op.store 26 _ _) _ _ _ _ :: _) _ _); refine storeB (K3) rfl rfl rfl rfl ?_) | ((with_reducible show wpList _ _ _ (Oper.mk _ (Op.load 26 _) _ _ _ _ :: _) _ _); refine loadB (K3n) rfl rfl rfl ?_) | ((with_reducible show wpList _ _ _ (Oper.mk _ (Op.buildSlice _ 1 _) _ _ _ _ :: _) _ _); refine wpl_buildB _ rfl rfl (f := G) rfl ?_) | (at_builtin; refine wpl_app (v := .slice (some ⟨gg, 0, none⟩) (k + 1) co) rfl _ _ 119 rfl (w.heap.size + 2) 26 i0 _ 16 128 Try.underlying119 hi hz0 hz1 hz2 rfl (by decide) rfl (OwnsL.cast HLN.out (OwnsL.alloc HOt.out _)) (w3.setRow (w.heap.size + 1) (mk 16 G)).heap.size 0 1 1 G 16 rfl (Blk.new _ _ _ _).at (by omega) (by unfold maxLen; omega) (by omega) (by rw [World.size_alloc]; omega) ?_))
      intro v' w7 R hbl hgr hloc
      have HO7 : Hid (OwnsL 26 16 w7 (w.heap.size + 2) v' (rbL f h (k + 1 + 1))) := by
        rw [snoc_walk (m := 16) _ G] at R
        show w7.ownsRow _ _ _ _ _ _
        rw [rbL_len, HLs.out]
        exact R
      obtain ⟨g', cap', hv'⟩ := ownsRow_succ R
      have HVv : Hid (∃ gg cap, v' = .slice (some ⟨gg, 0, none⟩) (k + 1 + 1) cap) := ⟨g', cap', hv'⟩
      have HB7 : Hid (Below w.heap.size w w7) := (HB3.out.alloc hs3 _).trans (hbl.mono (by omega))
      have K3 := (K3n.alloc (.cells (mk 16 G) 26)).below hbl (by omega)
      clear hbl hgr R hv' HOt hloc HB3 hlt K3n
      go_wp2_with fail
      go_roundg gk2
      case rel => exact ⟨k + 1, _, by omega, by go_num, rfl, HVv.out, HO7, by rw [← HMB.out]; exact K3, HB7⟩
      case measure => omega
end Go.Proofs.Ytfjpdopljmilpaa
