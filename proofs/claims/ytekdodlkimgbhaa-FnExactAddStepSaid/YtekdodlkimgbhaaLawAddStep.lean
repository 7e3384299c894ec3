/-
  Proved: for every replay and every step, the law FnExactAddStep returns true, and both read as they did. No condition.
-/
import Derived.Test.YtekdodlkimgbhaaAddTop
import Derived.Test.YtekdodlkimgbhaaStepLaw
import Derived.Test.YtekdodlkimgbhaaHeldLaw4
import Derived.Deep.Cut
import Derived.Test.YtekdodlkimgbhaaRepOwn
import Derived.Test.YtekdodlkimgbhaaBaseA
import Derived.Test.YtekdodlkimgbhaaClosed
import Derived.Test.YtekdodlkimgbhaaCommonTop
namespace Go.Proofs.Ytekdodlkimgbhaa.fnExactAddStep
open Go.ChangeShapes Go.WideShapes Go.ChangeAt Go.RowKit Plain
attribute [local go_sem] store_new store_newR
set_option linter.unusedVariables false
set_option linter.unusedSimpArgs false
theorem below3 {w a b : World} (h : Below w.heap.size w a) (k : Below a.heap.size a b) : Below w.heap.size w b := h.trans (k.mono h.size)
theorem rp_grown {w w' : World} {b : Nat} {f : Nat → Int} {v : Value} {t : TypeId} {r : Option Nat} (h : Rp w b f v t) (hg : w.grownBy w' r) (hne : r ≠ some b) : Rp w' b f v t := by
  obtain ⟨_, _, _, _, hk⟩ := hg
  exact (hk b h.lt (fun e => hne e.symm)).trans h
theorem blk_grown {w w' : World} {b n : Nat} {f : Nat → Int} {t : TypeId} {r : Option Nat} (h : Blk w b n f t) (hg : w.grownBy w' r) (hne : r ≠ some b) : Blk w' b n f t := by
  obtain ⟨_, _, _, _, hk⟩ := hg
  exact (hk b h.lt (fun e => hne e.symm)).trans h
theorem own_grown {w w' : World} {base m : Nat} {v : Value} {H : Nat → Int} {r : Option Nat} (h : OwnT w base v m H) (hg : w.grownBy w' r) (hne : ∀ k, r = some k → v.ownBlock ≠ some k) : OwnT w' base v m H := by
  cases hr : r with
  | none =>
    subst hr
    by_cases q : v.ownBlock = Option.none
    · exact World.ownsRow.kept h hg (Or.inl q)
    · exact World.ownsRow.kept h hg (Or.inr q)
  | some k => subst hr; exact World.ownsRow.kept h hg (Or.inr (hne k rfl))
set_option maxHeartbeats 8000000 in
set_option maxRecDepth 20000 in
theorem walk (w : World) (_ : w.ShapedOpen Try.prog) (a0 : Nat → Int) (s0 : Option Addr) (len0 cap0 : Nat) (hz : IsSteps w s0 len0 cap0) (a1 : Nat → Int) (_ : ∀ i, i < 4 → (Lit.int .i64 (a1 i)).wf = true) :
    Calls Try.prog 6 #[.agg (rpl a0 (.slice s0 len0 cap0)), .agg (mk 4 a1)] w fun e w' => e = .returned (.bool true) ∧ Below w.heap.size w w' := by
  have K0 := (Rp.new w a0 (.slice s0 len0 cap0) 28).alloc (.cells (mk 4 a1) 46)
  have T0 := Blk.new (w.alloc (.cells (rpl a0 (.slice s0 len0 cap0)) 28)) 4 a1 46
  have HB : Hid (Below w.heap.size w ((w.alloc (.cells (rpl a0 (.slice s0 len0 cap0)) 28)).alloc (.cells (mk 4 a1) 46))) := ((Below.refl w.heap.size w).alloc (Nat.le_refl _) _).alloc (by simp) _
  simp only [World.size_alloc] at T0
  have z16 := zero16
  have z17 := zeroRp
  have z4 := zero4
  obtain ⟨h, hzr⟩ := hz.srow
  have HZ := Lib.hid hzr
  have hll := hz.len_le
  clear hzr hz
  have HSZ := Lib.hid (fun W => szReplay_any a0 s0 len0 cap0 1048576 W hll (by decide) (Int.le_refl _))
  have HSP : ∀ W v, KRow 4 W v len0 h → len0 ≤ 1048576 → Calls Try.prog 25 #[.agg (rpl a0 v), .agg (mk 4 a1)] W fun e w' => ∃ a c, e = .returned (.tuple #[.agg (rpl (adF a0 h len0 a1) (.slice a (adN a0 h len0 a1) c)), .bool (decide (addOk a0 h len0 a1))]) ∧ OwnT w' W.heap.size (.slice a (adN a0 h len0 a1) c) (adN a0 h len0 a1) (addH h len0 a1) ∧ Below W.heap.size W w' := fun W v q hn => specAdd_any a0 v len0 h a1 W q hn
  have HIM : ∀ W v, KRow 4 W v len0 h → len0 ≤ 1048576 → Calls Try.prog 27 #[.agg (rpl a0 v), .agg (mk 4 a1)] W fun e w' => ∃ a c, e = .returned (.tuple #[.agg (rpl (adF a0 h len0 a1) (.slice a (adN a0 h len0 a1) c)), .bool (decide (addOk a0 h len0 a1))]) ∧ OwnT w' W.heap.size (.slice a (adN a0 h len0 a1) c) (adN a0 h len0 a1) (addH h len0 a1) ∧ Below W.heap.size W w' := fun W v q hn => implAdd_any a0 v len0 h a1 W q hn
  have HML := Lib.hid (show adN a0 h len0 a1 ≤ 1048576 by
    unfold adN
    split
    · rename_i q; have := q.2.1; omega
    · omega)
  generalize adN a0 h len0 a1 = m at *
  generalize adF a0 h len0 a1 = F at *
  generalize decide (addOk a0 h len0 a1) = O at *
  generalize addH h len0 a1 = H at *
  have HSP := Lib.hid HSP
  have HIM := Lib.hid HIM
  have hm := HML.out
  clear HML
  go_enter Try.func6, Try.ntmps6
  go_wp2_with ((with_reducible show wpList _ _ _ (Oper.mk _ (Op.load 28 _) _ _ _ _ :: _) _ _); refine loadRl (K0) rfl rfl rfl ?_)
  refine (HSZ.out _).mono ?_
  rintro e w1 ⟨⟨q, rfl, hq⟩, hb⟩
  have HM := Lib.hid hq
  clear hq HSZ
  have K0 := K0.below hb K0.lt
  have T0 := T0.below hb T0.lt
  have HB : Hid (Below w.heap.size w w1) := below3 HB.out hb
  clear hb
  by_cases hm0 : q < 0
  · go_wp2_with fail
    go_ret
    exact ⟨rfl, HB.out⟩
  · have HN := Lib.hid (HM.out (by omega)).1
    have n1 : ¬ (q < 0) := hm0
    clear HM
    go_upto_region 5 with fail
    go_cut [6, 7] from 21 (fun s6 s7 wc => ∃ (b6 s5 : Nat) (a5 : Option Addr) (c5 : Nat), s6 = .pointer (some ⟨b6, 0, none⟩) ∧ s7 = .bool O ∧ Rp wc w.heap.size a0 (.slice s0 len0 cap0) 28 ∧ Blk wc (w.heap.size + 1) 4 a1 46 ∧ Rp wc b6 F (.slice a5 m c5) 34 ∧ OwnT wc s5 (.slice a5 m c5) m H ∧ (w.heap.size + 1 < s5 ∧ w.heap.size + 1 < b6) ∧ (∀ k, (Value.slice a5 m c5).ownBlock = some k → k = b6 → False) ∧ Below w.heap.size w wc)
    case first =>
      generalize hs5 : w1.heap.size = s5
      have HS5 : Hid (s5 ≤ w1.heap.size) := by show _ ≤ _; omega
      have HSZ0 : Hid (s5 ≤ w1.heap.size) := HS5
      have HLT : Hid (w.heap.size + 1 < s5) := by have := T0.lt; show _ < _; omega
      clear hs5
      refine wp_region_held_drew (S := fun W => Rp W w.heap.size a0 (.slice s0 len0 cap0) 28 ∧ Blk W (w.heap.size + 1) 4 a1 46) (by kernel_rfl) (⟨K0.drew, T0.drew⟩) (fun hHeld => ?_)
      have K0 : Rp w1.drew w.heap.size a0 (.slice s0 len0 cap0) 28 := K0.drew
      have T0 : Blk w1.drew (w.heap.size + 1) 4 a1 46 := T0.drew
      have HB : Hid (Below w.heap.size w w1.drew) := HB.out.drew
      have HBX0 : Hid (Below w1.heap.size w1 w1.drew) := (Below.refl _ w1).drew
      generalize w1.drew = x0 at *
      have HBX : Hid (Below w1.heap.size w1 x0) := HBX0
      refine wpAnyH_take (i := 0) (oi := { dst := some 22, op := _, type := _, pos := _, after := _, guard := _ }) (v := .agg (rpl a0 (.slice s0 len0 cap0))) rfl (by kernel_rfl) (by kernel_rfl) (by kernel_rfl) (fun _ _ _ h => h) (Or.inl ⟨by rfl, fun _ q => execRl q.1 rfl rfl⟩) (by assumption) ?_
      try simp only [Act.put, List.setIfInBounds_toArray, List.set_cons_zero, List.set_cons_succ]
      refine wpAnyH_take (i := 2) (oi := { dst := some 24, op := _, type := _, pos := _, after := _, guard := _ }) (v := .agg (mk 4 a1)) rfl (by kernel_rfl) (by kernel_rfl) (by kernel_rfl) (fun _ _ _ h => h) (Or.inl ⟨by rfl, fun _ q => execU q.2 rfl rfl⟩) (by assumption) ?_
      try simp only [Act.put, List.setIfInBounds_toArray, List.set_cons_zero, List.set_cons_succ]
      refine wpAnyH_ready (rs := [1, 8]) (by kernel_rfl) (by simp) ?_
      refine AllReadyH.cons rfl (fun K hK => ?_) ?_
      · go_simp
        refine (toReplay_any a0 _ len0 h _ (HZ.out.below HB.out) HN.out).mono ?_
        rintro e x1 ⟨g1, rfl, r1, _, hb⟩
        have K0 := K0.below hb K0.lt
        have T0 := T0.below hb T0.lt
        have HB : Hid (Below w.heap.size w x1) := below3 HB.out hb
        have HBX : Hid (Below w1.heap.size w1 x1) := below3 HBX.out hb
        have CG : CAt x1 g1 (len0 * 4) h := r1.at
        clear hb hHeld r1
        go_wp2_with fail
        refine hK.out _ _ ⟨K0, T0⟩ (fun hHeld => ?_)
        clear hK K
        try simp only [Act.put, List.setIfInBounds_toArray, List.set_cons_zero, List.set_cons_succ]
        refine wpAnyH_ready (rs := [3, 8]) (by kernel_rfl) (by simp) ?_
        refine AllReadyH.cons rfl (fun K hK => ?_) ?_
        · go_simp
          refine (toStep_any a1 _).mono ?_
          rintro e x2 ⟨rfl, hb⟩
          have K0 := K0.below hb K0.lt
          have T0 := T0.below hb T0.lt
          have CG := CG.below hb
          have HB : Hid (Below w.heap.size w x2) := below3 HB.out hb
          have HBX : Hid (Below w1.heap.size w1 x2) := below3 HBX.out hb
          clear hb hHeld
          go_wp2_with fail
          refine hK.out _ _ ⟨K0, T0⟩ (fun hHeld => ?_)
          clear hK K
          try simp only [Act.put, List.setIfInBounds_toArray, List.set_cons_zero, List.set_cons_succ]
          refine wpAnyH_ready (rs := [4, 8]) (by kernel_rfl) (by simp) ?_
          refine AllReadyH.cons rfl (fun K hK => ?_) ?_
          · go_simp
            refine (HSP.out _ _ ⟨_, _, rfl, Nat.le_refl _, CG⟩ HN.out).mono ?_
            rintro e x3 ⟨a5, c5, rfl, ho, hb⟩
            have K0 := K0.below hb K0.lt
            have T0 := T0.below hb T0.lt
            have CG := CG.below hb
            have HB : Hid (Below w.heap.size w x3) := below3 HB.out hb
            have O5 : OwnT x3 s5 (.slice a5 m c5) m H := ho.wide (Nat.le_trans HS5.out HBX.out.size)
            have HBX : Hid (Below w1.heap.size w1 x3) := below3 HBX.out hb
            clear hb hHeld ho
            go_wp2_with fail
            refine hK.out _ _ ⟨K0, T0⟩ (fun hHeld => ?_)
            clear hK K
            try simp only [Act.put, List.setIfInBounds_toArray, List.set_cons_zero, List.set_cons_succ]
            refine wpAnyH_take (i := 5) (oi := { dst := some 21, op := _, type := _, pos := _, after := _, guard := _ }) (v := .tuple #[.agg (rpl F (.slice a5 m c5)), .bool O]) rfl (by kernel_rfl) (by kernel_rfl) (by kernel_rfl) (fun _ _ _ h => h) (Or.inl ⟨by rfl, by intro w hSw; clear hSw; go_simp; (try with_reducible rfl)⟩) (by assumption) ?_
            try simp only [Act.put, List.setIfInBounds_toArray, List.set_cons_zero, List.set_cons_succ]
            refine wpAnyH_take (i := 6) (oi := { dst := some 27, op := _, type := _, pos := _, after := _, guard := _ }) (v := .agg (rpl F (.slice a5 m c5))) rfl (by kernel_rfl) (by kernel_rfl) (by kernel_rfl) (fun _ _ _ h => h) (Or.inl ⟨by rfl, by intro w hSw; clear hSw; go_simp; (try with_reducible rfl)⟩) (by assumption) ?_
            try simp only [Act.put, List.setIfInBounds_toArray, List.set_cons_zero, List.set_cons_succ]
            refine wpAnyH_take (i := 7) (oi := { dst := some 28, op := _, type := _, pos := _, after := _, guard := _ }) (v := .bool O) rfl (by kernel_rfl) (by kernel_rfl) (by kernel_rfl) (fun _ _ _ h => h) (Or.inl ⟨by rfl, by intro w hSw; clear hSw; go_simp; (try with_reducible rfl)⟩) (by assumption) ?_
            try simp only [Act.put, List.setIfInBounds_toArray, List.set_cons_zero, List.set_cons_succ]
            refine wpAnyH_ready (rs := [8]) (by kernel_rfl) (by simp) ?_
            refine AllReadyH.cons rfl (fun K hK => ?_) AllReadyH.nil
            rw [if_pos (by rfl)]
            refine wp_allocRp rfl ?_
            have KN := Rp.new x3 (fun _ => 0) (.slice none 0 0) 34
            have HNB : Hid (s5 ≤ x3.heap.size) := Nat.le_trans HSZ0.out HBX.out.size
            have HNE : Hid (∀ k, (Value.slice a5 m c5).ownBlock = some k → k = x3.heap.size → False) := fun k e q => by have := (O5.lt k e).2; omega
            have K0 := K0.alloc (.cells (rpl (fun _ => 0) (.slice none 0 0)) 34)
            have T0 := T0.alloc (.cells (rpl (fun _ => 0) (.slice none 0 0)) 34)
            have O5 := O5.alloc (.cells (rpl (fun _ => 0) (.slice none 0 0)) 34)
            have HB : Hid (Below w.heap.size w (x3.alloc (.cells (rpl (fun _ => 0) (.slice none 0 0)) 34))) := HB.out.alloc HB.out.size _
            have HBX : Hid (Below w1.heap.size w1 (x3.alloc (.cells (rpl (fun _ => 0) (.slice none 0 0)) 34))) := HBX.out.alloc HBX.out.size _
            clear hHeld
            generalize x3.alloc (.cells (rpl (fun _ => 0) (.slice none 0 0)) 34) = x4 at *
            generalize x3.heap.size = bn at *
            refine hK.out _ _ ⟨K0, T0⟩ (fun hHeld => ?_)
            clear hK K
            try simp only [Act.put, List.setIfInBounds_toArray, List.set_cons_zero, List.set_cons_succ]
            refine wpAnyH_ready (rs := [9]) (by kernel_rfl) (by simp) ?_
            refine AllReadyH.cons rfl (fun K hK => ?_) AllReadyH.nil
            have st1 := run_store_rp (g := F) (a := a5) (n := m) (c := c5) KN
            have ms1 : (rpl F (.slice a5 m c5)).size = 17 := rpl_size _ _
            go_simp
            clear st1 ms1
            have hg8 := grown_rp KN (rpl F (.slice a5 m c5))
            have O5 : OwnT (x4.setRow bn (rpl F (.slice a5 m c5))) s5 (.slice a5 m c5) m H := O5.kept hg8 (fun q => HNE.out _ q rfl)
            have K0 := K0.rowOther bn (rpl F (.slice a5 m c5)) (by have := HNB.out; have := HLT.out; omega)
            have T0 := T0.rowOther bn (rpl F (.slice a5 m c5)) (by have := HNB.out; have := HLT.out; omega)
            have HB : Hid (Below w.heap.size w (x4.setRow bn (rpl F (.slice a5 m c5)))) := below_setRow HB.out (by have := HNB.out; have := HLT.out; omega) _
            have KN := KN.row F (.slice a5 m c5)
            clear hHeld hg8
            generalize x4.setRow bn (rpl F (.slice a5 m c5)) = x5 at *
            refine hK.out _ _ ⟨K0, T0⟩ (fun hHeld => ?_)
            clear hK K
            try simp only [Act.put, List.setIfInBounds_toArray, List.set_cons_zero, List.set_cons_succ]
            refine wpAnyH_take (i := 10) (oi := { dst := some 7, op := _, type := _, pos := _, after := _, guard := _ }) (v := .bool O) rfl (by kernel_rfl) (by kernel_rfl) (by kernel_rfl) (fun _ _ _ h => h) (Or.inl ⟨by rfl, by intro w hSw; clear hSw; go_simp; (try with_reducible rfl)⟩) (by assumption) ?_
            try simp only [Act.put, List.setIfInBounds_toArray, List.set_cons_zero, List.set_cons_succ]
            refine wpAnyH_done (by kernel_rfl) ?_ _
            clear hHeld
            go_wp2_with fail
            go_meet
            case rel => exact ⟨bn, s5, a5, c5, rfl, rfl, K0, T0, KN, O5, ⟨HLT.out, by have := HNB.out; have := HLT.out; omega⟩, fun k e q => HNE.out k e q, HB.out⟩
          refine AllReadyH.cons rfl (fun K hK => ?_) AllReadyH.nil
          rw [if_pos (by rfl)]
          refine wp_allocRp rfl ?_
          have KN := Rp.new x2 (fun _ => 0) (.slice none 0 0) 34
          have HNB : Hid (s5 ≤ x2.heap.size) := Nat.le_trans HSZ0.out HBX.out.size
          have K0 := K0.alloc (.cells (rpl (fun _ => 0) (.slice none 0 0)) 34)
          have T0 := T0.alloc (.cells (rpl (fun _ => 0) (.slice none 0 0)) 34)
          have CG := CG.alloc (.cells (rpl (fun _ => 0) (.slice none 0 0)) 34)
          have HB : Hid (Below w.heap.size w (x2.alloc (.cells (rpl (fun _ => 0) (.slice none 0 0)) 34))) := HB.out.alloc HB.out.size _
          have HBX : Hid (Below w1.heap.size w1 (x2.alloc (.cells (rpl (fun _ => 0) (.slice none 0 0)) 34))) := HBX.out.alloc HBX.out.size _
          clear hHeld
          generalize x2.alloc (.cells (rpl (fun _ => 0) (.slice none 0 0)) 34) = x3 at *
          generalize x2.heap.size = bn at *
          refine hK.out _ _ ⟨K0, T0⟩ (fun hHeld => ?_)
          clear hK K
          try simp only [Act.put, List.setIfInBounds_toArray, List.set_cons_zero, List.set_cons_succ]
          refine wpAnyH_ready (rs := [4]) (by kernel_rfl) (by simp) ?_
          refine AllReadyH.cons rfl (fun K hK => ?_) AllReadyH.nil
          go_simp
          refine (HSP.out _ _ ⟨_, _, rfl, Nat.le_refl _, CG⟩ HN.out).mono ?_
          rintro e x4 ⟨a5, c5, rfl, ho, hb⟩
          have HNE : Hid (∀ k, (Value.slice a5 m c5).ownBlock = some k → k = bn → False) := fun k e q => by have := (ho.lt k e).1; have := KN.lt; omega
          have K0 := K0.below hb K0.lt
          have T0 := T0.below hb T0.lt
          have CG := CG.below hb
          have KN := KN.below hb KN.lt
          have HB : Hid (Below w.heap.size w x4) := below3 HB.out hb
          have O5 : OwnT x4 s5 (.slice a5 m c5) m H := ho.wide (Nat.le_trans HS5.out HBX.out.size)
          have HBX : Hid (Below w1.heap.size w1 x4) := below3 HBX.out hb
          clear hb hHeld ho
          go_wp2_with fail
          refine hK.out _ _ ⟨K0, T0⟩ (fun hHeld => ?_)
          clear hK K
          try simp only [Act.put, List.setIfInBounds_toArray, List.set_cons_zero, List.set_cons_succ]
          refine wpAnyH_take (i := 5) (oi := { dst := some 21, op := _, type := _, pos := _, after := _, guard := _ }) (v := .tuple #[.agg (rpl F (.slice a5 m c5)), .bool O]) rfl (by kernel_rfl) (by kernel_rfl) (by kernel_rfl) (fun _ _ _ h => h) (Or.inl ⟨by rfl, by intro w hSw; clear hSw; go_simp; (try with_reducible rfl)⟩) (by assumption) ?_
          try simp only [Act.put, List.setIfInBounds_toArray, List.set_cons_zero, List.set_cons_succ]
          refine wpAnyH_take (i := 6) (oi := { dst := some 27, op := _, type := _, pos := _, after := _, guard := _ }) (v := .agg (rpl F (.slice a5 m c5))) rfl (by kernel_rfl) (by kernel_rfl) (by kernel_rfl) (fun _ _ _ h => h) (Or.inl ⟨by rfl, by intro w hSw; clear hSw; go_simp; (try with_reducible rfl)⟩) (by assumption) ?_
          try simp only [Act.put, List.setIfInBounds_toArray, List.set_cons_zero, List.set_cons_succ]
          refine wpAnyH_take (i := 7) (oi := { dst := some 28, op := _, type := _, pos := _, after := _, guard := _ }) (v := .bool O) rfl (by kernel_rfl) (by kernel_rfl) (by kernel_rfl) (fun _ _ _ h => h) (Or.inl ⟨by rfl, by intro w hSw; clear hSw; go_simp; (try with_reducible rfl)⟩) (by assumption) ?_
          try simp only [Act.put, List.setIfInBounds_toArray, List.set_cons_zero, List.set_cons_succ]
          refine wpAnyH_ready (rs := [9]) (by kernel_rfl) (by simp) ?_
          refine AllReadyH.cons rfl (fun K hK => ?_) AllReadyH.nil
          have st1 := run_store_rp (g := F) (a := a5) (n := m) (c := c5) KN
          have ms1 : (rpl F (.slice a5 m c5)).size = 17 := rpl_size _ _
          go_simp
          clear st1 ms1
          have hg8 := grown_rp KN (rpl F (.slice a5 m c5))
          have O5 : OwnT (x4.setRow bn (rpl F (.slice a5 m c5))) s5 (.slice a5 m c5) m H := O5.kept hg8 (fun q => HNE.out _ q rfl)
          have K0 := K0.rowOther bn (rpl F (.slice a5 m c5)) (by have := HNB.out; have := HLT.out; omega)
          have T0 := T0.rowOther bn (rpl F (.slice a5 m c5)) (by have := HNB.out; have := HLT.out; omega)
          have HB : Hid (Below w.heap.size w (x4.setRow bn (rpl F (.slice a5 m c5)))) := below_setRow HB.out (by have := HNB.out; have := HLT.out; omega) _
          have KN := KN.row F (.slice a5 m c5)
          clear hHeld hg8
          generalize x4.setRow bn (rpl F (.slice a5 m c5)) = x5 at *
          refine hK.out _ _ ⟨K0, T0⟩ (fun hHeld => ?_)
          clear hK K
          try simp only [Act.put, List.setIfInBounds_toArray, List.set_cons_zero, List.set_cons_succ]
          refine wpAnyH_take (i := 10) (oi := { dst := some 7, op := _, type := _, pos := _, after := _, guard := _ }) (v := .bool O) rfl (by kernel_rfl) (by kernel_rfl) (by kernel_rfl) (fun _ _ _ h => h) (Or.inl ⟨by rfl, by intro w hSw; clear hSw; go_simp; (try with_reducible rfl)⟩) (by assumption) ?_
          try simp only [Act.put, List.setIfInBounds_toArray, List.set_cons_zero, List.set_cons_succ]
          refine wpAnyH_done (by kernel_rfl) ?_ _
          clear hHeld
          go_wp2_with fail
          go_meet
          case rel => exact ⟨bn, s5, a5, c5, rfl, rfl, K0, T0, KN, O5, ⟨HLT.out, by have := HNB.out; have := HLT.out; omega⟩, fun k e q => HNE.out k e q, HB.out⟩
        refine AllReadyH.cons rfl (fun K hK => ?_) AllReadyH.nil
        rw [if_pos (by rfl)]
        refine wp_allocRp rfl ?_
        have KN := Rp.new x1 (fun _ => 0) (.slice none 0 0) 34
        have HNB : Hid (s5 ≤ x1.heap.size) := Nat.le_trans HSZ0.out HBX.out.size
        have K0 := K0.alloc (.cells (rpl (fun _ => 0) (.slice none 0 0)) 34)
        have T0 := T0.alloc (.cells (rpl (fun _ => 0) (.slice none 0 0)) 34)
        have CG := CG.alloc (.cells (rpl (fun _ => 0) (.slice none 0 0)) 34)
        have HB : Hid (Below w.heap.size w (x1.alloc (.cells (rpl (fun _ => 0) (.slice none 0 0)) 34))) := HB.out.alloc HB.out.size _
        have HBX : Hid (Below w1.heap.size w1 (x1.alloc (.cells (rpl (fun _ => 0) (.slice none 0 0)) 34))) := HBX.out.alloc HBX.out.size _
        clear hHeld
        generalize x1.alloc (.cells (rpl (fun _ => 0) (.slice none 0 0)) 34) = x2 at *
        generalize x1.heap.size = bn at *
        refine hK.out _ _ ⟨K0, T0⟩ (fun hHeld => ?_)
        clear hK K
        try simp only [Act.put, List.setIfInBounds_toArray, List.set_cons_zero, List.set_cons_succ]
        refine wpAnyH_ready (rs := [3]) (by kernel_rfl) (by simp) ?_
        refine AllReadyH.cons rfl (fun K hK => ?_) AllReadyH.nil
        go_simp
        refine (toStep_any a1 _).mono ?_
        rintro e x3 ⟨rfl, hb⟩
        have K0 := K0.below hb K0.lt
        have T0 := T0.below hb T0.lt
        have CG := CG.below hb
        have KN := KN.below hb KN.lt
        have HB : Hid (Below w.heap.size w x3) := below3 HB.out hb
        have HBX : Hid (Below w1.heap.size w1 x3) := below3 HBX.out hb
        clear hb hHeld
        go_wp2_with fail
        refine hK.out _ _ ⟨K0, T0⟩ (fun hHeld => ?_)
        clear hK K
        try simp only [Act.put, List.setIfInBounds_toArray, List.set_cons_zero, List.set_cons_succ]
        refine wpAnyH_ready (rs := [4]) (by kernel_rfl) (by simp) ?_
        refine AllReadyH.cons rfl (fun K hK => ?_) AllReadyH.nil
        go_simp
        refine (HSP.out _ _ ⟨_, _, rfl, Nat.le_refl _, CG⟩ HN.out).mono ?_
        rintro e x4 ⟨a5, c5, rfl, ho, hb⟩
        have HNE : Hid (∀ k, (Value.slice a5 m c5).ownBlock = some k → k = bn → False) := fun k e q => by have := (ho.lt k e).1; have := KN.lt; omega
        have K0 := K0.below hb K0.lt
        have T0 := T0.below hb T0.lt
        have CG := CG.below hb
        have KN := KN.below hb KN.lt
        have HB : Hid (Below w.heap.size w x4) := below3 HB.out hb
        have O5 : OwnT x4 s5 (.slice a5 m c5) m H := ho.wide (Nat.le_trans HS5.out HBX.out.size)
        have HBX : Hid (Below w1.heap.size w1 x4) := below3 HBX.out hb
        clear hb hHeld ho
        go_wp2_with fail
        refine hK.out _ _ ⟨K0, T0⟩ (fun hHeld => ?_)
        clear hK K
        try simp only [Act.put, List.setIfInBounds_toArray, List.set_cons_zero, List.set_cons_succ]
        refine wpAnyH_take (i := 5) (oi := { dst := some 21, op := _, type := _, pos := _, after := _, guard := _ }) (v := .tuple #[.agg (rpl F (.slice a5 m c5)), .bool O]) rfl (by kernel_rfl) (by kernel_rfl) (by kernel_rfl) (fun _ _ _ h => h) (Or.inl ⟨by rfl, by intro w hSw; clear hSw; go_simp; (try with_reducible rfl)⟩) (by assumption) ?_
        try simp only [Act.put, List.setIfInBounds_toArray, List.set_cons_zero, List.set_cons_succ]
        refine wpAnyH_take (i := 6) (oi := { dst := some 27, op := _, type := _, pos := _, after := _, guard := _ }) (v := .agg (rpl F (.slice a5 m c5))) rfl (by kernel_rfl) (by kernel_rfl) (by kernel_rfl) (fun _ _ _ h => h) (Or.inl ⟨by rfl, by intro w hSw; clear hSw; go_simp; (try with_reducible rfl)⟩) (by assumption) ?_
        try simp only [Act.put, List.setIfInBounds_toArray, List.set_cons_zero, List.set_cons_succ]
        refine wpAnyH_take (i := 7) (oi := { dst := some 28, op := _, type := _, pos := _, after := _, guard := _ }) (v := .bool O) rfl (by kernel_rfl) (by kernel_rfl) (by kernel_rfl) (fun _ _ _ h => h) (Or.inl ⟨by rfl, by intro w hSw; clear hSw; go_simp; (try with_reducible rfl)⟩) (by assumption) ?_
        try simp only [Act.put, List.setIfInBounds_toArray, List.set_cons_zero, List.set_cons_succ]
        refine wpAnyH_ready (rs := [9]) (by kernel_rfl) (by simp) ?_
        refine AllReadyH.cons rfl (fun K hK => ?_) AllReadyH.nil
        have st1 := run_store_rp (g := F) (a := a5) (n := m) (c := c5) KN
        have ms1 : (rpl F (.slice a5 m c5)).size = 17 := rpl_size _ _
        go_simp
        clear st1 ms1
        have hg8 := grown_rp KN (rpl F (.slice a5 m c5))
        have O5 : OwnT (x4.setRow bn (rpl F (.slice a5 m c5))) s5 (.slice a5 m c5) m H := O5.kept hg8 (fun q => HNE.out _ q rfl)
        have K0 := K0.rowOther bn (rpl F (.slice a5 m c5)) (by have := HNB.out; have := HLT.out; omega)
        have T0 := T0.rowOther bn (rpl F (.slice a5 m c5)) (by have := HNB.out; have := HLT.out; omega)
        have HB : Hid (Below w.heap.size w (x4.setRow bn (rpl F (.slice a5 m c5)))) := below_setRow HB.out (by have := HNB.out; have := HLT.out; omega) _
        have KN := KN.row F (.slice a5 m c5)
        clear hHeld hg8
        generalize x4.setRow bn (rpl F (.slice a5 m c5)) = x5 at *
        refine hK.out _ _ ⟨K0, T0⟩ (fun hHeld => ?_)
        clear hK K
        try simp only [Act.put, List.setIfInBounds_toArray, List.set_cons_zero, List.set_cons_succ]
        refine wpAnyH_take (i := 10) (oi := { dst := some 7, op := _, type := _, pos := _, after := _, guard := _ }) (v := .bool O) rfl (by kernel_rfl) (by kernel_rfl) (by kernel_rfl) (fun _ _ _ h => h) (Or.inl ⟨by rfl, by intro w hSw; clear hSw; go_simp; (try with_reducible rfl)⟩) (by assumption) ?_
        try simp only [Act.put, List.setIfInBounds_toArray, List.set_cons_zero, List.set_cons_succ]
        refine wpAnyH_done (by kernel_rfl) ?_ _
        clear hHeld
        go_wp2_with fail
        go_meet
        case rel => exact ⟨bn, s5, a5, c5, rfl, rfl, K0, T0, KN, O5, ⟨HLT.out, by have := HNB.out; have := HLT.out; omega⟩, fun k e q => HNE.out k e q, HB.out⟩
      refine AllReadyH.cons rfl (fun K hK => ?_) AllReadyH.nil
      rw [if_pos (by rfl)]
      refine wp_allocRp rfl ?_
      have KN := Rp.new x0 (fun _ => 0) (.slice none 0 0) 34
      have HNB : Hid (s5 ≤ x0.heap.size) := Nat.le_trans HSZ0.out HBX.out.size
      have K0 := K0.alloc (.cells (rpl (fun _ => 0) (.slice none 0 0)) 34)
      have T0 := T0.alloc (.cells (rpl (fun _ => 0) (.slice none 0 0)) 34)
      have HB : Hid (Below w.heap.size w (x0.alloc (.cells (rpl (fun _ => 0) (.slice none 0 0)) 34))) := HB.out.alloc HB.out.size _
      have HBX : Hid (Below w1.heap.size w1 (x0.alloc (.cells (rpl (fun _ => 0) (.slice none 0 0)) 34))) := HBX.out.alloc HBX.out.size _
      clear hHeld
      generalize x0.alloc (.cells (rpl (fun _ => 0) (.slice none 0 0)) 34) = x1 at *
      generalize x0.heap.size = bn at *
      refine hK.out _ _ ⟨K0, T0⟩ (fun hHeld => ?_)
      clear hK K
      try simp only [Act.put, List.setIfInBounds_toArray, List.set_cons_zero, List.set_cons_succ]
      refine wpAnyH_ready (rs := [1]) (by kernel_rfl) (by simp) ?_
      refine AllReadyH.cons rfl (fun K hK => ?_) AllReadyH.nil
      go_simp
      refine (toReplay_any a0 _ len0 h _ (HZ.out.below HB.out) HN.out).mono ?_
      rintro e x2 ⟨g1, rfl, r1, _, hb⟩
      have K0 := K0.below hb K0.lt
      have T0 := T0.below hb T0.lt
      have KN := KN.below hb KN.lt
      have HB : Hid (Below w.heap.size w x2) := below3 HB.out hb
      have HBX : Hid (Below w1.heap.size w1 x2) := below3 HBX.out hb
      have CG : CAt x2 g1 (len0 * 4) h := r1.at
      clear hb hHeld r1
      go_wp2_with fail
      refine hK.out _ _ ⟨K0, T0⟩ (fun hHeld => ?_)
      clear hK K
      try simp only [Act.put, List.setIfInBounds_toArray, List.set_cons_zero, List.set_cons_succ]
      refine wpAnyH_ready (rs := [3]) (by kernel_rfl) (by simp) ?_
      refine AllReadyH.cons rfl (fun K hK => ?_) AllReadyH.nil
      go_simp
      refine (toStep_any a1 _).mono ?_
      rintro e x3 ⟨rfl, hb⟩
      have K0 := K0.below hb K0.lt
      have T0 := T0.below hb T0.lt
      have KN := KN.below hb KN.lt
      have CG := CG.below hb
      have HB : Hid (Below w.heap.size w x3) := below3 HB.out hb
      have HBX : Hid (Below w1.heap.size w1 x3) := below3 HBX.out hb
      clear hb hHeld
      go_wp2_with fail
      refine hK.out _ _ ⟨K0, T0⟩ (fun hHeld => ?_)
      clear hK K
      try simp only [Act.put, List.setIfInBounds_toArray, List.set_cons_zero, List.set_cons_succ]
      refine wpAnyH_ready (rs := [4]) (by kernel_rfl) (by simp) ?_
      refine AllReadyH.cons rfl (fun K hK => ?_) AllReadyH.nil
      go_simp
      refine (HSP.out _ _ ⟨_, _, rfl, Nat.le_refl _, CG⟩ HN.out).mono ?_
      rintro e x4 ⟨a5, c5, rfl, ho, hb⟩
      have HNE : Hid (∀ k, (Value.slice a5 m c5).ownBlock = some k → k = bn → False) := fun k e q => by have := (ho.lt k e).1; have := KN.lt; omega
      have K0 := K0.below hb K0.lt
      have T0 := T0.below hb T0.lt
      have KN := KN.below hb KN.lt
      have CG := CG.below hb
      have HB : Hid (Below w.heap.size w x4) := below3 HB.out hb
      have O5 : OwnT x4 s5 (.slice a5 m c5) m H := ho.wide (Nat.le_trans HS5.out HBX.out.size)
      have HBX : Hid (Below w1.heap.size w1 x4) := below3 HBX.out hb
      clear hb hHeld ho
      go_wp2_with fail
      refine hK.out _ _ ⟨K0, T0⟩ (fun hHeld => ?_)
      clear hK K
      try simp only [Act.put, List.setIfInBounds_toArray, List.set_cons_zero, List.set_cons_succ]
      refine wpAnyH_take (i := 5) (oi := { dst := some 21, op := _, type := _, pos := _, after := _, guard := _ }) (v := .tuple #[.agg (rpl F (.slice a5 m c5)), .bool O]) rfl (by kernel_rfl) (by kernel_rfl) (by kernel_rfl) (fun _ _ _ h => h) (Or.inl ⟨by rfl, by intro w hSw; clear hSw; go_simp; (try with_reducible rfl)⟩) (by assumption) ?_
      try simp only [Act.put, List.setIfInBounds_toArray, List.set_cons_zero, List.set_cons_succ]
      refine wpAnyH_take (i := 6) (oi := { dst := some 27, op := _, type := _, pos := _, after := _, guard := _ }) (v := .agg (rpl F (.slice a5 m c5))) rfl (by kernel_rfl) (by kernel_rfl) (by kernel_rfl) (fun _ _ _ h => h) (Or.inl ⟨by rfl, by intro w hSw; clear hSw; go_simp; (try with_reducible rfl)⟩) (by assumption) ?_
      try simp only [Act.put, List.setIfInBounds_toArray, List.set_cons_zero, List.set_cons_succ]
      refine wpAnyH_take (i := 7) (oi := { dst := some 28, op := _, type := _, pos := _, after := _, guard := _ }) (v := .bool O) rfl (by kernel_rfl) (by kernel_rfl) (by kernel_rfl) (fun _ _ _ h => h) (Or.inl ⟨by rfl, by intro w hSw; clear hSw; go_simp; (try with_reducible rfl)⟩) (by assumption) ?_
      try simp only [Act.put, List.setIfInBounds_toArray, List.set_cons_zero, List.set_cons_succ]
      refine wpAnyH_ready (rs := [9]) (by kernel_rfl) (by simp) ?_
      refine AllReadyH.cons rfl (fun K hK => ?_) AllReadyH.nil
      have st1 := run_store_rp (g := F) (a := a5) (n := m) (c := c5) KN
      have ms1 : (rpl F (.slice a5 m c5)).size = 17 := rpl_size _ _
      go_simp
      clear st1 ms1
      have hg8 := grown_rp KN (rpl F (.slice a5 m c5))
      have O5 : OwnT (x4.setRow bn (rpl F (.slice a5 m c5))) s5 (.slice a5 m c5) m H := O5.kept hg8 (fun q => HNE.out _ q rfl)
      have K0 := K0.rowOther bn (rpl F (.slice a5 m c5)) (by have := HNB.out; have := HLT.out; omega)
      have T0 := T0.rowOther bn (rpl F (.slice a5 m c5)) (by have := HNB.out; have := HLT.out; omega)
      have HB : Hid (Below w.heap.size w (x4.setRow bn (rpl F (.slice a5 m c5)))) := below_setRow HB.out (by have := HNB.out; have := HLT.out; omega) _
      have KN := KN.row F (.slice a5 m c5)
      clear hHeld hg8
      generalize x4.setRow bn (rpl F (.slice a5 m c5)) = x5 at *
      refine hK.out _ _ ⟨K0, T0⟩ (fun hHeld => ?_)
      clear hK K
      try simp only [Act.put, List.setIfInBounds_toArray, List.set_cons_zero, List.set_cons_succ]
      refine wpAnyH_take (i := 10) (oi := { dst := some 7, op := _, type := _, pos := _, after := _, guard := _ }) (v := .bool O) rfl (by kernel_rfl) (by kernel_rfl) (by kernel_rfl) (fun _ _ _ h => h) (Or.inl ⟨by rfl, by intro w hSw; clear hSw; go_simp; (try with_reducible rfl)⟩) (by assumption) ?_
      try simp only [Act.put, List.setIfInBounds_toArray, List.set_cons_zero, List.set_cons_succ]
      refine wpAnyH_done (by kernel_rfl) ?_ _
      clear hHeld
      go_wp2_with fail
      go_meet
      case rel => exact ⟨bn, s5, a5, c5, rfl, rfl, K0, T0, KN, O5, ⟨HLT.out, by have := HNB.out; have := HLT.out; omega⟩, fun k e q => HNE.out k e q, HB.out⟩
    case rest =>
      obtain ⟨b6, s5, a5, c5, rfl, rfl, K0, T0, K6, O5, h65, h6n, hb6⟩ := hcut
      have HB := Lib.hid hb6
      have H65 := Lib.hid h65
      clear hb6 h65 h6n
      go_wp2_with ((with_reducible show wpList _ _ _ (Oper.mk _ (Op.load 28 _) _ _ _ _ :: _) _ _); refine loadRl (K0) rfl rfl rfl ?_)
      refine (toReplay_any a0 _ len0 h _ (HZ.out.below HB.out) HN.out).mono ?_
      rintro e w2 ⟨gx, rfl, r1, hge, hb⟩
      have hb6 := K6.lt
      have hO5 := fun k e => (O5.lt k e).2
      have K0 := K0.below hb K0.lt
      have T0 := T0.below hb T0.lt
      have K6 := K6.below hb K6.lt
      have O5 := O5.below hb
      have HB : Hid (Below w.heap.size w w2) := below3 HB.out hb
      have HX6 : Hid (b6 < gx ∧ ∀ k, (Value.slice a5 m c5).ownBlock = some k → k < gx) := ⟨by omega, fun k e => by have := hO5 k e; omega⟩
      have BX : Blk w2 gx (len0 * 4) h 49 := r1
      clear hb r1 hge hb6 hO5
      have hgx := BX.lt
      have K0 := K0.alloc (.cells (rpl a0 (.slice (some ⟨gx, 0, none⟩) len0 len0)) 34)
      have T0 := T0.alloc (.cells (rpl a0 (.slice (some ⟨gx, 0, none⟩) len0 len0)) 34)
      have K6 := K6.alloc (.cells (rpl a0 (.slice (some ⟨gx, 0, none⟩) len0 len0)) 34)
      have O5 := O5.alloc (.cells (rpl a0 (.slice (some ⟨gx, 0, none⟩) len0 len0)) 34)
      have BX := BX.alloc (.cells (rpl a0 (.slice (some ⟨gx, 0, none⟩) len0 len0)) 34)
      have HB : Hid (Below w.heap.size w (w2.alloc (.cells (rpl a0 (.slice (some ⟨gx, 0, none⟩) len0 len0)) 34))) := HB.out.alloc HB.out.size _
      have KX := Rp.new w2 a0 (.slice (some ⟨gx, 0, none⟩) len0 len0) 34
      generalize hbx : w2.heap.size = bx at *
      have HXX : Hid (gx < bx) := hgx
      clear hgx
      go_upto_region 7 with fail
      have hKX := KX.lt
      go_cut [9, 10] from 31 (fun s9' s10' wc => ∃ (b9 s9 : Nat) (a9 : Option Addr) (c9 : Nat), s9' = .pointer (some ⟨b9, 0, none⟩) ∧ s10' = .bool O ∧ Rp wc w.heap.size a0 (.slice s0 len0 cap0) 28 ∧ Blk wc (w.heap.size + 1) 4 a1 46 ∧ Rp wc b6 F (.slice a5 m c5) 34 ∧ OwnT wc s5 (.slice a5 m c5) m H ∧ Blk wc gx (len0 * 4) h 49 ∧ Rp wc bx a0 (.slice (some ⟨gx, 0, none⟩) len0 len0) 34 ∧ Rp wc b9 F (.slice a9 m c9) 34 ∧ OwnT wc s9 (.slice a9 m c9) m H ∧ (bx < s9 ∧ s9 ≤ b9) ∧ (∀ k, (Value.slice a9 m c9).ownBlock = some k → k = b9 → False) ∧ Below w.heap.size w wc)
      case first =>
        generalize hs9 : (w2.alloc (.cells (rpl a0 (.slice (some ⟨gx, 0, none⟩) len0 len0)) 34)).heap.size = s9 at *
        have HS5 : Hid (s9 ≤ (w2.alloc (.cells (rpl a0 (.slice (some ⟨gx, 0, none⟩) len0 len0)) 34)).heap.size) := by show _ ≤ _; omega
        have HSZ0 : Hid (s9 ≤ (w2.alloc (.cells (rpl a0 (.slice (some ⟨gx, 0, none⟩) len0 len0)) 34)).heap.size) := HS5
        have HLT : Hid (bx < s9) := by show _ < _; omega
        have HOB : Hid (∀ k, (Value.slice a5 m c5).ownBlock = some k → k < s9) := fun k e => by have := HX6.out.2 k e; have := HXX.out; have := HLT.out; omega
        clear hs9
        refine wp_region_held_drew (S := fun W => Blk W (w.heap.size + 1) 4 a1 46 ∧ Rp W bx a0 (.slice (some ⟨gx, 0, none⟩) len0 len0) 34) (by kernel_rfl) (⟨T0.drew, KX.drew⟩) (fun hHeld => ?_)
        have K0 : Rp (w2.alloc (.cells (rpl a0 (.slice (some ⟨gx, 0, none⟩) len0 len0)) 34)).drew w.heap.size a0 (.slice s0 len0 cap0) 28 := K0.drew
        have T0 : Blk (w2.alloc (.cells (rpl a0 (.slice (some ⟨gx, 0, none⟩) len0 len0)) 34)).drew (w.heap.size + 1) 4 a1 46 := T0.drew
        have K6 : Rp (w2.alloc (.cells (rpl a0 (.slice (some ⟨gx, 0, none⟩) len0 len0)) 34)).drew b6 F (.slice a5 m c5) 34 := K6.drew
        have O5 : OwnT (w2.alloc (.cells (rpl a0 (.slice (some ⟨gx, 0, none⟩) len0 len0)) 34)).drew s5 (.slice a5 m c5) m H := O5.drew
        have BX : Blk (w2.alloc (.cells (rpl a0 (.slice (some ⟨gx, 0, none⟩) len0 len0)) 34)).drew gx (len0 * 4) h 49 := BX.drew
        have KX : Rp (w2.alloc (.cells (rpl a0 (.slice (some ⟨gx, 0, none⟩) len0 len0)) 34)).drew bx a0 (.slice (some ⟨gx, 0, none⟩) len0 len0) 34 := KX.drew
        have HB : Hid (Below w.heap.size w (w2.alloc (.cells (rpl a0 (.slice (some ⟨gx, 0, none⟩) len0 len0)) 34)).drew) := HB.out.drew
        have HBX0 : Hid (Below (w2.alloc (.cells (rpl a0 (.slice (some ⟨gx, 0, none⟩) len0 len0)) 34)).heap.size (w2.alloc (.cells (rpl a0 (.slice (some ⟨gx, 0, none⟩) len0 len0)) 34)) (w2.alloc (.cells (rpl a0 (.slice (some ⟨gx, 0, none⟩) len0 len0)) 34)).drew) := (Below.refl _ (w2.alloc (.cells (rpl a0 (.slice (some ⟨gx, 0, none⟩) len0 len0)) 34))).drew
        generalize (w2.alloc (.cells (rpl a0 (.slice (some ⟨gx, 0, none⟩) len0 len0)) 34)).drew = x0 at *
        have HBX : Hid (Below (w2.alloc (.cells (rpl a0 (.slice (some ⟨gx, 0, none⟩) len0 len0)) 34)).heap.size (w2.alloc (.cells (rpl a0 (.slice (some ⟨gx, 0, none⟩) len0 len0)) 34)) x0) := HBX0
        refine wpAnyH_take (i := 0) (oi := { dst := some 32, op := _, type := _, pos := _, after := _, guard := _ }) (v := .agg (rpl a0 (.slice (some ⟨gx, 0, none⟩) len0 len0))) rfl (by kernel_rfl) (by kernel_rfl) (by kernel_rfl) (fun _ _ _ h => h) (Or.inl ⟨by rfl, fun _ q => execRp q.2 rfl rfl⟩) (by assumption) ?_
        try simp only [Act.put, List.setIfInBounds_toArray, List.set_cons_zero, List.set_cons_succ]
        refine wpAnyH_take (i := 1) (oi := { dst := some 33, op := _, type := _, pos := _, after := _, guard := _ }) (v := .agg (mk 4 a1)) rfl (by kernel_rfl) (by kernel_rfl) (by kernel_rfl) (fun _ _ _ h => h) (Or.inl ⟨by rfl, fun _ q => execU q.1 rfl rfl⟩) (by assumption) ?_
        try simp only [Act.put, List.setIfInBounds_toArray, List.set_cons_zero, List.set_cons_succ]
        refine wpAnyH_ready (rs := [2, 7]) (by kernel_rfl) (by simp) ?_
        refine AllReadyH.cons rfl (fun K hK => ?_) ?_
        · go_simp
          refine (toStep_any a1 _).mono ?_
          rintro e x1 ⟨rfl, hb⟩
          have K0 := K0.below hb K0.lt
          have T0 := T0.below hb T0.lt
          have K6 := K6.below hb K6.lt
          have O5 := O5.below hb
          have BX := BX.below hb BX.lt
          have KX := KX.below hb KX.lt
          have HB : Hid (Below w.heap.size w x1) := below3 HB.out hb
          have HBX : Hid (Below (w2.alloc (.cells (rpl a0 (.slice (some ⟨gx, 0, none⟩) len0 len0)) 34)).heap.size (w2.alloc (.cells (rpl a0 (.slice (some ⟨gx, 0, none⟩) len0 len0)) 34)) x1) := below3 HBX.out hb
          clear hb hHeld
          go_wp2_with fail
          refine hK.out _ _ ⟨T0, KX⟩ (fun hHeld => ?_)
          clear hK K
          try simp only [Act.put, List.setIfInBounds_toArray, List.set_cons_zero, List.set_cons_succ]
          refine wpAnyH_ready (rs := [3, 7]) (by kernel_rfl) (by simp) ?_
          refine AllReadyH.cons rfl (fun K hK => ?_) ?_
          · go_simp
            refine (HIM.out _ _ ⟨_, _, rfl, Nat.le_refl _, BX.at⟩ HN.out).mono ?_
            rintro e x2 ⟨a9, c9, rfl, ho, hb⟩
            have K0 := K0.below hb K0.lt
            have T0 := T0.below hb T0.lt
            have K6 := K6.below hb K6.lt
            have O5 := O5.below hb
            have BX := BX.below hb BX.lt
            have KX := KX.below hb KX.lt
            have HB : Hid (Below w.heap.size w x2) := below3 HB.out hb
            have O9 : OwnT x2 s9 (.slice a9 m c9) m H := ho.wide (Nat.le_trans HS5.out HBX.out.size)
            have HBX : Hid (Below (w2.alloc (.cells (rpl a0 (.slice (some ⟨gx, 0, none⟩) len0 len0)) 34)).heap.size (w2.alloc (.cells (rpl a0 (.slice (some ⟨gx, 0, none⟩) len0 len0)) 34)) x2) := below3 HBX.out hb
            clear hb hHeld ho
            go_wp2_with fail
            refine hK.out _ _ ⟨T0, KX⟩ (fun hHeld => ?_)
            clear hK K
            try simp only [Act.put, List.setIfInBounds_toArray, List.set_cons_zero, List.set_cons_succ]
            refine wpAnyH_take (i := 4) (oi := { dst := some 31, op := _, type := _, pos := _, after := _, guard := _ }) (v := .tuple #[.agg (rpl F (.slice a9 m c9)), .bool O]) rfl (by kernel_rfl) (by kernel_rfl) (by kernel_rfl) (fun _ _ _ h => h) (Or.inl ⟨by rfl, by intro w hSw; clear hSw; go_simp; (try with_reducible rfl)⟩) (by assumption) ?_
            try simp only [Act.put, List.setIfInBounds_toArray, List.set_cons_zero, List.set_cons_succ]
            refine wpAnyH_take (i := 5) (oi := { dst := some 36, op := _, type := _, pos := _, after := _, guard := _ }) (v := .agg (rpl F (.slice a9 m c9))) rfl (by kernel_rfl) (by kernel_rfl) (by kernel_rfl) (fun _ _ _ h => h) (Or.inl ⟨by rfl, by intro w hSw; clear hSw; go_simp; (try with_reducible rfl)⟩) (by assumption) ?_
            try simp only [Act.put, List.setIfInBounds_toArray, List.set_cons_zero, List.set_cons_succ]
            refine wpAnyH_take (i := 6) (oi := { dst := some 37, op := _, type := _, pos := _, after := _, guard := _ }) (v := .bool O) rfl (by kernel_rfl) (by kernel_rfl) (by kernel_rfl) (fun _ _ _ h => h) (Or.inl ⟨by rfl, by intro w hSw; clear hSw; go_simp; (try with_reducible rfl)⟩) (by assumption) ?_
            try simp only [Act.put, List.setIfInBounds_toArray, List.set_cons_zero, List.set_cons_succ]
            refine wpAnyH_ready (rs := [7]) (by kernel_rfl) (by simp) ?_
            refine AllReadyH.cons rfl (fun K hK => ?_) AllReadyH.nil
            rw [if_pos (by rfl)]
            refine wp_allocRp rfl ?_
            have KN := Rp.new x2 (fun _ => 0) (.slice none 0 0) 34
            have HNB : Hid (s9 ≤ x2.heap.size) := Nat.le_trans HSZ0.out HBX.out.size
            have HNE : Hid (∀ k, (Value.slice a9 m c9).ownBlock = some k → k = x2.heap.size → False) := fun k e q => by have := (O9.lt k e).2; omega
            have K0 := K0.alloc (.cells (rpl (fun _ => 0) (.slice none 0 0)) 34)
            have T0 := T0.alloc (.cells (rpl (fun _ => 0) (.slice none 0 0)) 34)
            have K6 := K6.alloc (.cells (rpl (fun _ => 0) (.slice none 0 0)) 34)
            have O5 := O5.alloc (.cells (rpl (fun _ => 0) (.slice none 0 0)) 34)
            have BX := BX.alloc (.cells (rpl (fun _ => 0) (.slice none 0 0)) 34)
            have KX := KX.alloc (.cells (rpl (fun _ => 0) (.slice none 0 0)) 34)
            have O9 := O9.alloc (.cells (rpl (fun _ => 0) (.slice none 0 0)) 34)
            have HB : Hid (Below w.heap.size w (x2.alloc (.cells (rpl (fun _ => 0) (.slice none 0 0)) 34))) := HB.out.alloc HB.out.size _
            have HBX : Hid (Below (w2.alloc (.cells (rpl a0 (.slice (some ⟨gx, 0, none⟩) len0 len0)) 34)).heap.size (w2.alloc (.cells (rpl a0 (.slice (some ⟨gx, 0, none⟩) len0 len0)) 34)) (x2.alloc (.cells (rpl (fun _ => 0) (.slice none 0 0)) 34))) := HBX.out.alloc HBX.out.size _
            clear hHeld
            generalize x2.alloc (.cells (rpl (fun _ => 0) (.slice none 0 0)) 34) = x3 at *
            generalize x2.heap.size = bn at *
            refine hK.out _ _ ⟨T0, KX⟩ (fun hHeld => ?_)
            clear hK K
            try simp only [Act.put, List.setIfInBounds_toArray, List.set_cons_zero, List.set_cons_succ]
            refine wpAnyH_ready (rs := [8]) (by kernel_rfl) (by simp) ?_
            refine AllReadyH.cons rfl (fun K hK => ?_) AllReadyH.nil
            have st1 := run_store_rp (g := F) (a := a9) (n := m) (c := c9) KN
            have ms1 : (rpl F (.slice a9 m c9)).size = 17 := rpl_size _ _
            go_simp
            clear st1 ms1
            have hg8 := grown_rp KN (rpl F (.slice a9 m c9))
            have O9 : OwnT (x3.setRow bn (rpl F (.slice a9 m c9))) s9 (.slice a9 m c9) m H := O9.kept hg8 (fun q => HNE.out _ q rfl)
            have K0 := K0.rowOther bn (rpl F (.slice a9 m c9)) (by have := HNB.out; have := HLT.out; have := HXX.out; have := HX6.out.1; have := H65.out; omega)
            have T0 := T0.rowOther bn (rpl F (.slice a9 m c9)) (by have := HNB.out; have := HLT.out; have := HXX.out; have := HX6.out.1; have := H65.out; omega)
            have K6 := K6.rowOther bn (rpl F (.slice a9 m c9)) (by have := HNB.out; have := HLT.out; have := HXX.out; have := HX6.out.1; have := H65.out; omega)
            have O5 := O5.kept hg8 (fun q => by have := HOB.out _ q; have := HNB.out; omega)
            have BX := BX.rowOther bn (rpl F (.slice a9 m c9)) (by have := HNB.out; have := HLT.out; have := HXX.out; have := HX6.out.1; have := H65.out; omega)
            have KX := KX.rowOther bn (rpl F (.slice a9 m c9)) (by have := HNB.out; have := HLT.out; have := HXX.out; have := HX6.out.1; have := H65.out; omega)
            have HB : Hid (Below w.heap.size w (x3.setRow bn (rpl F (.slice a9 m c9)))) := below_setRow HB.out (by have := HNB.out; have := HLT.out; have := HXX.out; have := HX6.out.1; have := H65.out; omega) _
            have KN := KN.row F (.slice a9 m c9)
            clear hHeld hg8
            generalize x3.setRow bn (rpl F (.slice a9 m c9)) = x4 at *
            refine hK.out _ _ ⟨T0, KX⟩ (fun hHeld => ?_)
            clear hK K
            try simp only [Act.put, List.setIfInBounds_toArray, List.set_cons_zero, List.set_cons_succ]
            refine wpAnyH_take (i := 9) (oi := { dst := some 10, op := _, type := _, pos := _, after := _, guard := _ }) (v := .bool O) rfl (by kernel_rfl) (by kernel_rfl) (by kernel_rfl) (fun _ _ _ h => h) (Or.inl ⟨by rfl, by intro w hSw; clear hSw; go_simp; (try with_reducible rfl)⟩) (by assumption) ?_
            try simp only [Act.put, List.setIfInBounds_toArray, List.set_cons_zero, List.set_cons_succ]
            refine wpAnyH_done (by kernel_rfl) ?_ _
            clear hHeld
            go_wp2_with fail
            go_meet
            case rel => exact ⟨bn, s9, a9, c9, rfl, rfl, K0, T0, K6, O5, BX, KX, KN, O9, ⟨HLT.out, HNB.out⟩, fun k e q => HNE.out k e q, HB.out⟩
          refine AllReadyH.cons rfl (fun K hK => ?_) AllReadyH.nil
          rw [if_pos (by rfl)]
          refine wp_allocRp rfl ?_
          have KN := Rp.new x1 (fun _ => 0) (.slice none 0 0) 34
          have HNB : Hid (s9 ≤ x1.heap.size) := Nat.le_trans HSZ0.out HBX.out.size
          have K0 := K0.alloc (.cells (rpl (fun _ => 0) (.slice none 0 0)) 34)
          have T0 := T0.alloc (.cells (rpl (fun _ => 0) (.slice none 0 0)) 34)
          have K6 := K6.alloc (.cells (rpl (fun _ => 0) (.slice none 0 0)) 34)
          have O5 := O5.alloc (.cells (rpl (fun _ => 0) (.slice none 0 0)) 34)
          have BX := BX.alloc (.cells (rpl (fun _ => 0) (.slice none 0 0)) 34)
          have KX := KX.alloc (.cells (rpl (fun _ => 0) (.slice none 0 0)) 34)
          have HB : Hid (Below w.heap.size w (x1.alloc (.cells (rpl (fun _ => 0) (.slice none 0 0)) 34))) := HB.out.alloc HB.out.size _
          have HBX : Hid (Below (w2.alloc (.cells (rpl a0 (.slice (some ⟨gx, 0, none⟩) len0 len0)) 34)).heap.size (w2.alloc (.cells (rpl a0 (.slice (some ⟨gx, 0, none⟩) len0 len0)) 34)) (x1.alloc (.cells (rpl (fun _ => 0) (.slice none 0 0)) 34))) := HBX.out.alloc HBX.out.size _
          clear hHeld
          generalize x1.alloc (.cells (rpl (fun _ => 0) (.slice none 0 0)) 34) = x2 at *
          generalize x1.heap.size = bn at *
          refine hK.out _ _ ⟨T0, KX⟩ (fun hHeld => ?_)
          clear hK K
          try simp only [Act.put, List.setIfInBounds_toArray, List.set_cons_zero, List.set_cons_succ]
          refine wpAnyH_ready (rs := [3]) (by kernel_rfl) (by simp) ?_
          refine AllReadyH.cons rfl (fun K hK => ?_) AllReadyH.nil
          go_simp
          refine (HIM.out _ _ ⟨_, _, rfl, Nat.le_refl _, BX.at⟩ HN.out).mono ?_
          rintro e x3 ⟨a9, c9, rfl, ho, hb⟩
          have HNE : Hid (∀ k, (Value.slice a9 m c9).ownBlock = some k → k = bn → False) := fun k e q => by have := (ho.lt k e).1; have := KN.lt; omega
          have K0 := K0.below hb K0.lt
          have T0 := T0.below hb T0.lt
          have K6 := K6.below hb K6.lt
          have O5 := O5.below hb
          have BX := BX.below hb BX.lt
          have KX := KX.below hb KX.lt
          have KN := KN.below hb KN.lt
          have HB : Hid (Below w.heap.size w x3) := below3 HB.out hb
          have O9 : OwnT x3 s9 (.slice a9 m c9) m H := ho.wide (Nat.le_trans HS5.out HBX.out.size)
          have HBX : Hid (Below (w2.alloc (.cells (rpl a0 (.slice (some ⟨gx, 0, none⟩) len0 len0)) 34)).heap.size (w2.alloc (.cells (rpl a0 (.slice (some ⟨gx, 0, none⟩) len0 len0)) 34)) x3) := below3 HBX.out hb
          clear hb hHeld ho
          go_wp2_with fail
          refine hK.out _ _ ⟨T0, KX⟩ (fun hHeld => ?_)
          clear hK K
          try simp only [Act.put, List.setIfInBounds_toArray, List.set_cons_zero, List.set_cons_succ]
          refine wpAnyH_take (i := 4) (oi := { dst := some 31, op := _, type := _, pos := _, after := _, guard := _ }) (v := .tuple #[.agg (rpl F (.slice a9 m c9)), .bool O]) rfl (by kernel_rfl) (by kernel_rfl) (by kernel_rfl) (fun _ _ _ h => h) (Or.inl ⟨by rfl, by intro w hSw; clear hSw; go_simp; (try with_reducible rfl)⟩) (by assumption) ?_
          try simp only [Act.put, List.setIfInBounds_toArray, List.set_cons_zero, List.set_cons_succ]
          refine wpAnyH_take (i := 5) (oi := { dst := some 36, op := _, type := _, pos := _, after := _, guard := _ }) (v := .agg (rpl F (.slice a9 m c9))) rfl (by kernel_rfl) (by kernel_rfl) (by kernel_rfl) (fun _ _ _ h => h) (Or.inl ⟨by rfl, by intro w hSw; clear hSw; go_simp; (try with_reducible rfl)⟩) (by assumption) ?_
          try simp only [Act.put, List.setIfInBounds_toArray, List.set_cons_zero, List.set_cons_succ]
          refine wpAnyH_take (i := 6) (oi := { dst := some 37, op := _, type := _, pos := _, after := _, guard := _ }) (v := .bool O) rfl (by kernel_rfl) (by kernel_rfl) (by kernel_rfl) (fun _ _ _ h => h) (Or.inl ⟨by rfl, by intro w hSw; clear hSw; go_simp; (try with_reducible rfl)⟩) (by assumption) ?_
          try simp only [Act.put, List.setIfInBounds_toArray, List.set_cons_zero, List.set_cons_succ]
          refine wpAnyH_ready (rs := [8]) (by kernel_rfl) (by simp) ?_
          refine AllReadyH.cons rfl (fun K hK => ?_) AllReadyH.nil
          have st1 := run_store_rp (g := F) (a := a9) (n := m) (c := c9) KN
          have ms1 : (rpl F (.slice a9 m c9)).size = 17 := rpl_size _ _
          go_simp
          clear st1 ms1
          have hg8 := grown_rp KN (rpl F (.slice a9 m c9))
          have O9 : OwnT (x3.setRow bn (rpl F (.slice a9 m c9))) s9 (.slice a9 m c9) m H := O9.kept hg8 (fun q => HNE.out _ q rfl)
          have K0 := K0.rowOther bn (rpl F (.slice a9 m c9)) (by have := HNB.out; have := HLT.out; have := HXX.out; have := HX6.out.1; have := H65.out; omega)
          have T0 := T0.rowOther bn (rpl F (.slice a9 m c9)) (by have := HNB.out; have := HLT.out; have := HXX.out; have := HX6.out.1; have := H65.out; omega)
          have K6 := K6.rowOther bn (rpl F (.slice a9 m c9)) (by have := HNB.out; have := HLT.out; have := HXX.out; have := HX6.out.1; have := H65.out; omega)
          have O5 := O5.kept hg8 (fun q => by have := HOB.out _ q; have := HNB.out; omega)
          have BX := BX.rowOther bn (rpl F (.slice a9 m c9)) (by have := HNB.out; have := HLT.out; have := HXX.out; have := HX6.out.1; have := H65.out; omega)
          have KX := KX.rowOther bn (rpl F (.slice a9 m c9)) (by have := HNB.out; have := HLT.out; have := HXX.out; have := HX6.out.1; have := H65.out; omega)
          have HB : Hid (Below w.heap.size w (x3.setRow bn (rpl F (.slice a9 m c9)))) := below_setRow HB.out (by have := HNB.out; have := HLT.out; have := HXX.out; have := HX6.out.1; have := H65.out; omega) _
          have KN := KN.row F (.slice a9 m c9)
          clear hHeld hg8
          generalize x3.setRow bn (rpl F (.slice a9 m c9)) = x4 at *
          refine hK.out _ _ ⟨T0, KX⟩ (fun hHeld => ?_)
          clear hK K
          try simp only [Act.put, List.setIfInBounds_toArray, List.set_cons_zero, List.set_cons_succ]
          refine wpAnyH_take (i := 9) (oi := { dst := some 10, op := _, type := _, pos := _, after := _, guard := _ }) (v := .bool O) rfl (by kernel_rfl) (by kernel_rfl) (by kernel_rfl) (fun _ _ _ h => h) (Or.inl ⟨by rfl, by intro w hSw; clear hSw; go_simp; (try with_reducible rfl)⟩) (by assumption) ?_
          try simp only [Act.put, List.setIfInBounds_toArray, List.set_cons_zero, List.set_cons_succ]
          refine wpAnyH_done (by kernel_rfl) ?_ _
          clear hHeld
          go_wp2_with fail
          go_meet
          case rel => exact ⟨bn, s9, a9, c9, rfl, rfl, K0, T0, K6, O5, BX, KX, KN, O9, ⟨HLT.out, HNB.out⟩, fun k e q => HNE.out k e q, HB.out⟩
        refine AllReadyH.cons rfl (fun K hK => ?_) AllReadyH.nil
        rw [if_pos (by rfl)]
        refine wp_allocRp rfl ?_
        have KN := Rp.new x0 (fun _ => 0) (.slice none 0 0) 34
        have HNB : Hid (s9 ≤ x0.heap.size) := Nat.le_trans HSZ0.out HBX.out.size
        have K0 := K0.alloc (.cells (rpl (fun _ => 0) (.slice none 0 0)) 34)
        have T0 := T0.alloc (.cells (rpl (fun _ => 0) (.slice none 0 0)) 34)
        have K6 := K6.alloc (.cells (rpl (fun _ => 0) (.slice none 0 0)) 34)
        have O5 := O5.alloc (.cells (rpl (fun _ => 0) (.slice none 0 0)) 34)
        have BX := BX.alloc (.cells (rpl (fun _ => 0) (.slice none 0 0)) 34)
        have KX := KX.alloc (.cells (rpl (fun _ => 0) (.slice none 0 0)) 34)
        have HB : Hid (Below w.heap.size w (x0.alloc (.cells (rpl (fun _ => 0) (.slice none 0 0)) 34))) := HB.out.alloc HB.out.size _
        have HBX : Hid (Below (w2.alloc (.cells (rpl a0 (.slice (some ⟨gx, 0, none⟩) len0 len0)) 34)).heap.size (w2.alloc (.cells (rpl a0 (.slice (some ⟨gx, 0, none⟩) len0 len0)) 34)) (x0.alloc (.cells (rpl (fun _ => 0) (.slice none 0 0)) 34))) := HBX.out.alloc HBX.out.size _
        clear hHeld
        generalize x0.alloc (.cells (rpl (fun _ => 0) (.slice none 0 0)) 34) = x1 at *
        generalize x0.heap.size = bn at *
        refine hK.out _ _ ⟨T0, KX⟩ (fun hHeld => ?_)
        clear hK K
        try simp only [Act.put, List.setIfInBounds_toArray, List.set_cons_zero, List.set_cons_succ]
        refine wpAnyH_ready (rs := [2]) (by kernel_rfl) (by simp) ?_
        refine AllReadyH.cons rfl (fun K hK => ?_) AllReadyH.nil
        go_simp
        refine (toStep_any a1 _).mono ?_
        rintro e x2 ⟨rfl, hb⟩
        have K0 := K0.below hb K0.lt
        have T0 := T0.below hb T0.lt
        have K6 := K6.below hb K6.lt
        have O5 := O5.below hb
        have BX := BX.below hb BX.lt
        have KX := KX.below hb KX.lt
        have KN := KN.below hb KN.lt
        have HB : Hid (Below w.heap.size w x2) := below3 HB.out hb
        have HBX : Hid (Below (w2.alloc (.cells (rpl a0 (.slice (some ⟨gx, 0, none⟩) len0 len0)) 34)).heap.size (w2.alloc (.cells (rpl a0 (.slice (some ⟨gx, 0, none⟩) len0 len0)) 34)) x2) := below3 HBX.out hb
        clear hb hHeld
        go_wp2_with fail
        refine hK.out _ _ ⟨T0, KX⟩ (fun hHeld => ?_)
        clear hK K
        try simp only [Act.put, List.setIfInBounds_toArray, List.set_cons_zero, List.set_cons_succ]
        refine wpAnyH_ready (rs := [3]) (by kernel_rfl) (by simp) ?_
        refine AllReadyH.cons rfl (fun K hK => ?_) AllReadyH.nil
        go_simp
        refine (HIM.out _ _ ⟨_, _, rfl, Nat.le_refl _, BX.at⟩ HN.out).mono ?_
        rintro e x3 ⟨a9, c9, rfl, ho, hb⟩
        have HNE : Hid (∀ k, (Value.slice a9 m c9).ownBlock = some k → k = bn → False) := fun k e q => by have := (ho.lt k e).1; have := KN.lt; omega
        have K0 := K0.below hb K0.lt
        have T0 := T0.below hb T0.lt
        have K6 := K6.below hb K6.lt
        have O5 := O5.below hb
        have BX := BX.below hb BX.lt
        have KX := KX.below hb KX.lt
        have KN := KN.below hb KN.lt
        have HB : Hid (Below w.heap.size w x3) := below3 HB.out hb
        have O9 : OwnT x3 s9 (.slice a9 m c9) m H := ho.wide (Nat.le_trans HS5.out HBX.out.size)
        have HBX : Hid (Below (w2.alloc (.cells (rpl a0 (.slice (some ⟨gx, 0, none⟩) len0 len0)) 34)).heap.size (w2.alloc (.cells (rpl a0 (.slice (some ⟨gx, 0, none⟩) len0 len0)) 34)) x3) := below3 HBX.out hb
        clear hb hHeld ho
        go_wp2_with fail
        refine hK.out _ _ ⟨T0, KX⟩ (fun hHeld => ?_)
        clear hK K
        try simp only [Act.put, List.setIfInBounds_toArray, List.set_cons_zero, List.set_cons_succ]
        refine wpAnyH_take (i := 4) (oi := { dst := some 31, op := _, type := _, pos := _, after := _, guard := _ }) (v := .tuple #[.agg (rpl F (.slice a9 m c9)), .bool O]) rfl (by kernel_rfl) (by kernel_rfl) (by kernel_rfl) (fun _ _ _ h => h) (Or.inl ⟨by rfl, by intro w hSw; clear hSw; go_simp; (try with_reducible rfl)⟩) (by assumption) ?_
        try simp only [Act.put, List.setIfInBounds_toArray, List.set_cons_zero, List.set_cons_succ]
        refine wpAnyH_take (i := 5) (oi := { dst := some 36, op := _, type := _, pos := _, after := _, guard := _ }) (v := .agg (rpl F (.slice a9 m c9))) rfl (by kernel_rfl) (by kernel_rfl) (by kernel_rfl) (fun _ _ _ h => h) (Or.inl ⟨by rfl, by intro w hSw; clear hSw; go_simp; (try with_reducible rfl)⟩) (by assumption) ?_
        try simp only [Act.put, List.setIfInBounds_toArray, List.set_cons_zero, List.set_cons_succ]
        refine wpAnyH_take (i := 6) (oi := { dst := some 37, op := _, type := _, pos := _, after := _, guard := _ }) (v := .bool O) rfl (by kernel_rfl) (by kernel_rfl) (by kernel_rfl) (fun _ _ _ h => h) (Or.inl ⟨by rfl, by intro w hSw; clear hSw; go_simp; (try with_reducible rfl)⟩) (by assumption) ?_
        try simp only [Act.put, List.setIfInBounds_toArray, List.set_cons_zero, List.set_cons_succ]
        refine wpAnyH_ready (rs := [8]) (by kernel_rfl) (by simp) ?_
        refine AllReadyH.cons rfl (fun K hK => ?_) AllReadyH.nil
        have st1 := run_store_rp (g := F) (a := a9) (n := m) (c := c9) KN
        have ms1 : (rpl F (.slice a9 m c9)).size = 17 := rpl_size _ _
        go_simp
        clear st1 ms1
        have hg8 := grown_rp KN (rpl F (.slice a9 m c9))
        have O9 : OwnT (x3.setRow bn (rpl F (.slice a9 m c9))) s9 (.slice a9 m c9) m H := O9.kept hg8 (fun q => HNE.out _ q rfl)
        have K0 := K0.rowOther bn (rpl F (.slice a9 m c9)) (by have := HNB.out; have := HLT.out; have := HXX.out; have := HX6.out.1; have := H65.out; omega)
        have T0 := T0.rowOther bn (rpl F (.slice a9 m c9)) (by have := HNB.out; have := HLT.out; have := HXX.out; have := HX6.out.1; have := H65.out; omega)
        have K6 := K6.rowOther bn (rpl F (.slice a9 m c9)) (by have := HNB.out; have := HLT.out; have := HXX.out; have := HX6.out.1; have := H65.out; omega)
        have O5 := O5.kept hg8 (fun q => by have := HOB.out _ q; have := HNB.out; omega)
        have BX := BX.rowOther bn (rpl F (.slice a9 m c9)) (by have := HNB.out; have := HLT.out; have := HXX.out; have := HX6.out.1; have := H65.out; omega)
        have KX := KX.rowOther bn (rpl F (.slice a9 m c9)) (by have := HNB.out; have := HLT.out; have := HXX.out; have := HX6.out.1; have := H65.out; omega)
        have HB : Hid (Below w.heap.size w (x3.setRow bn (rpl F (.slice a9 m c9)))) := below_setRow HB.out (by have := HNB.out; have := HLT.out; have := HXX.out; have := HX6.out.1; have := H65.out; omega) _
        have KN := KN.row F (.slice a9 m c9)
        clear hHeld hg8
        generalize x3.setRow bn (rpl F (.slice a9 m c9)) = x4 at *
        refine hK.out _ _ ⟨T0, KX⟩ (fun hHeld => ?_)
        clear hK K
        try simp only [Act.put, List.setIfInBounds_toArray, List.set_cons_zero, List.set_cons_succ]
        refine wpAnyH_take (i := 9) (oi := { dst := some 10, op := _, type := _, pos := _, after := _, guard := _ }) (v := .bool O) rfl (by kernel_rfl) (by kernel_rfl) (by kernel_rfl) (fun _ _ _ h => h) (Or.inl ⟨by rfl, by intro w hSw; clear hSw; go_simp; (try with_reducible rfl)⟩) (by assumption) ?_
        try simp only [Act.put, List.setIfInBounds_toArray, List.set_cons_zero, List.set_cons_succ]
        refine wpAnyH_done (by kernel_rfl) ?_ _
        clear hHeld
        go_wp2_with fail
        go_meet
        case rel => exact ⟨bn, s9, a9, c9, rfl, rfl, K0, T0, K6, O5, BX, KX, KN, O9, ⟨HLT.out, HNB.out⟩, fun k e q => HNE.out k e q, HB.out⟩
      case rest =>
        obtain ⟨b9, s9, a9, c9, rfl, rfl, K0, T0, K6, O5, BX, KX, K9, O9, h9, h9n, hb9⟩ := hcut
        have HB := Lib.hid hb9
        have H9 := Lib.hid h9
        have H9B := Lib.hid h9n
        clear hb9 h9 h9n hKX
        go_wp2_with (first | ((with_reducible show wpList _ _ _ (Oper.mk _ (Op.load 34 _) _ _ _ _ :: _) _ _); refine loadRp (K9) rfl rfl rfl ?_) | ((with_reducible show wpList _ _ _ (Oper.mk _ (Op.load 34 _) _ _ _ _ :: _) _ _); refine loadRp (K6) rfl rfl rfl ?_))
        refine (eqReplay_own F _ O9 O5 hm).mono ?_
        rintro e v21 ⟨rfl, hb⟩
        have K0 := K0.below hb K0.lt
        have T0 := T0.below hb T0.lt
        have K6 := K6.below hb K6.lt
        have O5 := O5.below hb
        have BX := BX.below hb BX.lt
        have KX := KX.below hb KX.lt
        have K9 := K9.below hb K9.lt
        have O9 := O9.below hb
        have HB : Hid (Below w.heap.size w v21) := below3 HB.out hb
        clear hb
        go_wp2_with fail
        refine wp_region_held_drew (S := fun W => Rp W w.heap.size a0 (.slice s0 len0 cap0) 28 ∧ Rp W bx a0 (.slice (some ⟨gx, 0, none⟩) len0 len0) 34) (by kernel_rfl) (⟨K0.drew, KX.drew⟩) (fun hHeld => ?_)
        have K0 : Rp v21.drew w.heap.size a0 (.slice s0 len0 cap0) 28 := K0.drew
        have T0 : Blk v21.drew (w.heap.size + 1) 4 a1 46 := T0.drew
        have K6 : Rp v21.drew b6 F (.slice a5 m c5) 34 := K6.drew
        have O5 : OwnT v21.drew s5 (.slice a5 m c5) m H := O5.drew
        have BX : Blk v21.drew gx (len0 * 4) h 49 := BX.drew
        have KX : Rp v21.drew bx a0 (.slice (some ⟨gx, 0, none⟩) len0 len0) 34 := KX.drew
        have K9 : Rp v21.drew b9 F (.slice a9 m c9) 34 := K9.drew
        have O9 : OwnT v21.drew s9 (.slice a9 m c9) m H := O9.drew
        have HB : Hid (Below w.heap.size w v21.drew) := HB.out.drew
        generalize v21.drew = x0 at *
        refine wpAnyH_take (i := 0) (oi := { dst := some 47, op := _, type := _, pos := _, after := _, guard := _ }) (v := .agg (rpl a0 (.slice (some ⟨gx, 0, none⟩) len0 len0))) rfl (by kernel_rfl) (by kernel_rfl) (by kernel_rfl) (fun _ _ _ h => h) (Or.inl ⟨by rfl, fun _ q => execRp q.2 rfl rfl⟩) (by assumption) ?_
        try simp only [Act.put, List.setIfInBounds_toArray, List.set_cons_zero, List.set_cons_succ]
        refine wpAnyH_take (i := 1) (oi := { dst := some 48, op := _, type := _, pos := _, after := _, guard := _ }) (v := .agg (rpl a0 (.slice s0 len0 cap0))) rfl (by kernel_rfl) (by kernel_rfl) (by kernel_rfl) (fun _ _ _ h => h) (Or.inl ⟨by rfl, fun _ q => execRl q.1 rfl rfl⟩) (by assumption) ?_
        try simp only [Act.put, List.setIfInBounds_toArray, List.set_cons_zero, List.set_cons_succ]
        refine wpAnyH_ready (rs := [2]) (by kernel_rfl) (by simp) ?_
        refine AllReadyH.cons rfl (fun K hK => ?_) AllReadyH.nil
        go_simp
        refine (toReplay_any a0 _ len0 h _ (HZ.out.below HB.out) HN.out).mono ?_
        rintro e x1 ⟨gy, rfl, ry, _, hb⟩
        have K0 := K0.below hb K0.lt
        have T0 := T0.below hb T0.lt
        have K6 := K6.below hb K6.lt
        have O5 := O5.below hb
        have BX := BX.below hb BX.lt
        have KX := KX.below hb KX.lt
        have K9 := K9.below hb K9.lt
        have O9 := O9.below hb
        have HB : Hid (Below w.heap.size w x1) := below3 HB.out hb
        have CY := ry.at
        clear hb hHeld ry
        go_wp2_with fail
        refine hK.out _ _ ⟨K0, KX⟩ (fun hHeld => ?_)
        clear hK K
        try simp only [Act.put, List.setIfInBounds_toArray, List.set_cons_zero, List.set_cons_succ]
        refine wpAnyH_ready (rs := [3]) (by kernel_rfl) (by simp) ?_
        refine AllReadyH.cons rfl (fun K hK => ?_) AllReadyH.nil
        go_simp
        refine (eqReplay_yes a0 _ _ len0 h _ ⟨_, _, rfl, Nat.le_refl _, BX.at⟩ ⟨_, _, rfl, Nat.le_refl _, CY⟩ HN.out).mono ?_
        rintro e x2 ⟨rfl, hb⟩
        have K0 := K0.below hb K0.lt
        have T0 := T0.below hb T0.lt
        have K6 := K6.below hb K6.lt
        have O5 := O5.below hb
        have BX := BX.below hb BX.lt
        have KX := KX.below hb KX.lt
        have K9 := K9.below hb K9.lt
        have O9 := O9.below hb
        have HB : Hid (Below w.heap.size w x2) := below3 HB.out hb
        clear hb hHeld CY
        go_wp2_with fail
        refine hK.out _ _ ⟨K0, KX⟩ (fun hHeld => ?_)
        clear hK K
        try simp only [Act.put, List.setIfInBounds_toArray, List.set_cons_zero, List.set_cons_succ]
        refine wpAnyH_take (i := 4) (oi := { dst := some 51, op := _, type := _, pos := _, after := _, guard := _ }) (v := .bool false) rfl (by kernel_rfl) (by kernel_rfl) (by kernel_rfl) (fun _ _ _ h => h) (Or.inl ⟨by rfl, by intro w hSw; clear hSw; go_simp; (try with_reducible rfl)⟩) (by assumption) ?_
        try simp only [Act.put, List.setIfInBounds_toArray, List.set_cons_zero, List.set_cons_succ]
        refine wpAnyH_done (by kernel_rfl) ?_ _
        clear hHeld
        go_wp2_with ((with_reducible show wpList _ _ _ (Oper.mk _ (Op.load 34 _) _ _ _ _ :: _) _ _); refine loadRp (KX) rfl rfl rfl ?_)
        refine (markReplay_own a0 _ (OwnT.of_blk (base := 0) BX (Nat.zero_le _) (by have := HN.out; unfold maxLen; omega)) HN.out).mono ?_
        rintro e v22 ⟨rfl, ho, hg⟩
        have K0 := rp_grown K0 hg (fun e => by have e : gx = w.heap.size := Option.some.inj e; have := H65.out; have := HX6.out.1; have := HXX.out; have := H9.out; omega)
        have K6 := rp_grown K6 hg (fun e => by have e : gx = b6 := Option.some.inj e; have := H65.out; have := HX6.out.1; have := HXX.out; have := H9.out; omega)
        have K9 := rp_grown K9 hg (fun e => by have e : gx = b9 := Option.some.inj e; have := H65.out; have := HX6.out.1; have := HXX.out; have := H9.out; omega)
        have T0 := blk_grown T0 hg (fun e => by have e : gx = w.heap.size + 1 := Option.some.inj e; have := H65.out; have := HX6.out.1; have := HXX.out; have := H9.out; omega)
        have O5 := own_grown O5 hg (fun k hk e => by have hk : gx = k := Option.some.inj hk; have := HX6.out.2 k e; omega)
        have O9 := own_grown O9 hg (fun k hk e => by have hk : gx = k := Option.some.inj hk; have := (O9.lt k e).1; have := H65.out; have := HX6.out.1; have := HXX.out; have := H9.out; omega)
        have HB : Hid (Below w.heap.size w v22) := HB.out.grown hg HB.out.size (fun k hk => by have hk : gx = k := Option.some.inj hk; have := H65.out; have := HX6.out.1; have := HXX.out; have := H9.out; omega)
        clear ho hg KX BX
        have n2 : ¬ (((1 + len0 * 4 : Nat) : Int) < 0) := by omega
        go_wp2_with (first | ((with_reducible show wpList _ _ _ (Oper.mk _ (Op.load 34 _) _ _ _ (some _) :: _) _ _); refine loadRpg (K9) rfl rfl rfl ?_) | ((with_reducible show wpList _ _ _ (Oper.mk _ (Op.load 34 _) _ _ _ (some _) :: _) _ _); refine loadRpg (K6) rfl rfl rfl ?_))
        refine (eqReplay_own F _ O9 O5 hm).mono ?_
        rintro e v23 ⟨rfl, hb⟩
        have K0 := K0.below hb K0.lt
        have T0 := T0.below hb T0.lt
        have K6 := K6.below hb K6.lt
        have O5 := O5.below hb
        have K9 := K9.below hb K9.lt
        have O9 := O9.below hb
        have HB : Hid (Below w.heap.size w v23) := below3 HB.out hb
        clear hb
        go_wp2_with ((with_reducible show wpList _ _ _ (Oper.mk _ (Op.load 34 _) _ _ _ _ :: _) _ _); refine loadRp (K9) rfl rfl rfl ?_)
        refine (markReplay_own F _ O9 hm).mono ?_
        rintro e v24 ⟨rfl, ho, hg⟩
        have h9 := O9.lt
        have K0 := rp_grown K0 hg (fun e => by have := (h9 _ e).1; have := H65.out; have := HX6.out.1; have := HXX.out; have := H9.out; omega)
        have K6 := rp_grown K6 hg (fun e => by have := (h9 _ e).1; have := H65.out; have := HX6.out.1; have := HXX.out; have := H9.out; omega)
        have K9 := rp_grown K9 hg (fun e => H9B.out _ e rfl)
        have T0 := blk_grown T0 hg (fun e => by have := (h9 _ e).1; have := H65.out; have := HX6.out.1; have := HXX.out; have := H9.out; omega)
        have O5 := own_grown O5 hg (fun k hk e => by have := (h9 k hk).1; have := HX6.out.2 k e; have := H65.out; have := HX6.out.1; have := HXX.out; have := H9.out; omega)
        have HB : Hid (Below w.heap.size w v24) := HB.out.grown hg HB.out.size (fun k hk => by have := (h9 k hk).1; have := H65.out; have := HX6.out.1; have := HXX.out; have := H9.out; omega)
        have O9m : OwnT v24 s9 (.slice a9 m c9) m (fun j => ((1 + j : Nat) : Int)) := ho
        clear ho hg h9 O9
        have n3 : ¬ (((1 + m * 4 : Nat) : Int) < 0) := by omega
        go_wp2_with ((with_reducible show wpList _ _ _ (Oper.mk _ (Op.load 34 _) _ _ _ _ :: _) _ _); refine loadRp (K9) rfl rfl rfl ?_)
        refine (heldReplay_own F _ O9m hm).mono ?_
        rintro e v25 ⟨rfl, hb⟩
        have K0 := K0.below hb K0.lt
        have T0 := T0.below hb T0.lt
        have K6 := K6.below hb K6.lt
        have O5 := O5.below hb
        have K9 := K9.below hb K9.lt
        have O9m := O9m.below hb
        have HB : Hid (Below w.heap.size w v25) := below3 HB.out hb
        clear hb
        go_upto_region 24 with fail
        have hK9 := K9.lt
        have hO9 := fun k e => (O9m.lt k e).2
        go_cut [14, 15] from 79 (fun s14' s15' wc => ∃ (b7 s7 : Nat) (a7 : Option Addr) (c7 : Nat), s14' = .pointer (some ⟨b7, 0, none⟩) ∧ s15' = .bool O ∧ Rp wc w.heap.size a0 (.slice s0 len0 cap0) 28 ∧ Blk wc (w.heap.size + 1) 4 a1 46 ∧ Rp wc b6 F (.slice a5 m c5) 34 ∧ OwnT wc s5 (.slice a5 m c5) m H ∧ Rp wc b9 F (.slice a9 m c9) 34 ∧ OwnT wc s9 (.slice a9 m c9) m (fun j => ((1 + j : Nat) : Int)) ∧ Rp wc b7 F (.slice a7 m c7) 34 ∧ OwnT wc s7 (.slice a7 m c7) m H ∧ Below w.heap.size w wc)
        case first =>
          generalize hs9 : v25.heap.size = s7 at *
          have HS5 : Hid (s7 ≤ v25.heap.size) := by show _ ≤ _; omega
          have HSZ0 : Hid (s7 ≤ v25.heap.size) := HS5
          have HLT : Hid (b9 < s7) := by show _ < _; omega
          have HOB : Hid (∀ k, (Value.slice a5 m c5).ownBlock = some k → k < s7) := fun k e => by have := HX6.out.2 k e; have := HXX.out; have := H9.out; have := HLT.out; omega
          have HOM : Hid (∀ k, (Value.slice a9 m c9).ownBlock = some k → k < s7) := hO9
          clear hs9 hO9
          refine wp_region_held_drew (S := fun W => Rp W w.heap.size a0 (.slice s0 len0 cap0) 28 ∧ Blk W (w.heap.size + 1) 4 a1 46) (by kernel_rfl) (⟨K0.drew, T0.drew⟩) (fun hHeld => ?_)
          have K0 : Rp v25.drew w.heap.size a0 (.slice s0 len0 cap0) 28 := K0.drew
          have T0 : Blk v25.drew (w.heap.size + 1) 4 a1 46 := T0.drew
          have K6 : Rp v25.drew b6 F (.slice a5 m c5) 34 := K6.drew
          have O5 : OwnT v25.drew s5 (.slice a5 m c5) m H := O5.drew
          have K9 : Rp v25.drew b9 F (.slice a9 m c9) 34 := K9.drew
          have O9m : OwnT v25.drew s9 (.slice a9 m c9) m (fun j => ((1 + j : Nat) : Int)) := O9m.drew
          have HB : Hid (Below w.heap.size w v25.drew) := HB.out.drew
          have HBX0 : Hid (Below v25.heap.size v25 v25.drew) := (Below.refl _ v25).drew
          generalize v25.drew = x0 at *
          have HBX : Hid (Below v25.heap.size v25 x0) := HBX0
          refine wpAnyH_take (i := 0) (oi := { dst := some 80, op := _, type := _, pos := _, after := _, guard := _ }) (v := .agg (rpl a0 (.slice s0 len0 cap0))) rfl (by kernel_rfl) (by kernel_rfl) (by kernel_rfl) (fun _ _ _ h => h) (Or.inl ⟨by rfl, fun _ q => execRl q.1 rfl rfl⟩) (by assumption) ?_
          try simp only [Act.put, List.setIfInBounds_toArray, List.set_cons_zero, List.set_cons_succ]
          refine wpAnyH_take (i := 2) (oi := { dst := some 82, op := _, type := _, pos := _, after := _, guard := _ }) (v := .agg (mk 4 a1)) rfl (by kernel_rfl) (by kernel_rfl) (by kernel_rfl) (fun _ _ _ h => h) (Or.inl ⟨by rfl, fun _ q => execU q.2 rfl rfl⟩) (by assumption) ?_
          try simp only [Act.put, List.setIfInBounds_toArray, List.set_cons_zero, List.set_cons_succ]
          refine wpAnyH_ready (rs := [1, 8]) (by kernel_rfl) (by simp) ?_
          refine AllReadyH.cons rfl (fun K hK => ?_) ?_
          · go_simp
            refine (toReplay_any a0 _ len0 h _ (HZ.out.below HB.out) HN.out).mono ?_
            rintro e x1 ⟨g1, rfl, r1, _, hb⟩
            have K0 := K0.below hb K0.lt
            have T0 := T0.below hb T0.lt
            have K6 := K6.below hb K6.lt
            have O5 := O5.below hb
            have K9 := K9.below hb K9.lt
            have O9m := O9m.below hb
            have HB : Hid (Below w.heap.size w x1) := below3 HB.out hb
            have HBX : Hid (Below v25.heap.size v25 x1) := below3 HBX.out hb
            have CG : CAt x1 g1 (len0 * 4) h := r1.at
            clear hb hHeld r1
            go_wp2_with fail
            refine hK.out _ _ ⟨K0, T0⟩ (fun hHeld => ?_)
            clear hK K
            try simp only [Act.put, List.setIfInBounds_toArray, List.set_cons_zero, List.set_cons_succ]
            refine wpAnyH_ready (rs := [3, 8]) (by kernel_rfl) (by simp) ?_
            refine AllReadyH.cons rfl (fun K hK => ?_) ?_
            · go_simp
              refine (toStep_any a1 _).mono ?_
              rintro e x2 ⟨rfl, hb⟩
              have K0 := K0.below hb K0.lt
              have T0 := T0.below hb T0.lt
              have K6 := K6.below hb K6.lt
              have O5 := O5.below hb
              have K9 := K9.below hb K9.lt
              have O9m := O9m.below hb
              have CG := CG.below hb
              have HB : Hid (Below w.heap.size w x2) := below3 HB.out hb
              have HBX : Hid (Below v25.heap.size v25 x2) := below3 HBX.out hb
              clear hb hHeld
              go_wp2_with fail
              refine hK.out _ _ ⟨K0, T0⟩ (fun hHeld => ?_)
              clear hK K
              try simp only [Act.put, List.setIfInBounds_toArray, List.set_cons_zero, List.set_cons_succ]
              refine wpAnyH_ready (rs := [4, 8]) (by kernel_rfl) (by simp) ?_
              refine AllReadyH.cons rfl (fun K hK => ?_) ?_
              · go_simp
                refine (HIM.out _ _ ⟨_, _, rfl, Nat.le_refl _, CG⟩ HN.out).mono ?_
                rintro e x3 ⟨a7, c7, rfl, ho, hb⟩
                have K0 := K0.below hb K0.lt
                have T0 := T0.below hb T0.lt
                have K6 := K6.below hb K6.lt
                have O5 := O5.below hb
                have K9 := K9.below hb K9.lt
                have O9m := O9m.below hb
                have CG := CG.below hb
                have HB : Hid (Below w.heap.size w x3) := below3 HB.out hb
                have OZ : OwnT x3 s7 (.slice a7 m c7) m H := ho.wide (Nat.le_trans HS5.out HBX.out.size)
                have HBX : Hid (Below v25.heap.size v25 x3) := below3 HBX.out hb
                clear hb hHeld ho
                go_wp2_with fail
                refine hK.out _ _ ⟨K0, T0⟩ (fun hHeld => ?_)
                clear hK K
                try simp only [Act.put, List.setIfInBounds_toArray, List.set_cons_zero, List.set_cons_succ]
                refine wpAnyH_take (i := 5) (oi := { dst := some 79, op := _, type := _, pos := _, after := _, guard := _ }) (v := .tuple #[.agg (rpl F (.slice a7 m c7)), .bool O]) rfl (by kernel_rfl) (by kernel_rfl) (by kernel_rfl) (fun _ _ _ h => h) (Or.inl ⟨by rfl, by intro w hSw; clear hSw; go_simp; (try with_reducible rfl)⟩) (by assumption) ?_
                try simp only [Act.put, List.setIfInBounds_toArray, List.set_cons_zero, List.set_cons_succ]
                refine wpAnyH_take (i := 6) (oi := { dst := some 85, op := _, type := _, pos := _, after := _, guard := _ }) (v := .agg (rpl F (.slice a7 m c7))) rfl (by kernel_rfl) (by kernel_rfl) (by kernel_rfl) (fun _ _ _ h => h) (Or.inl ⟨by rfl, by intro w hSw; clear hSw; go_simp; (try with_reducible rfl)⟩) (by assumption) ?_
                try simp only [Act.put, List.setIfInBounds_toArray, List.set_cons_zero, List.set_cons_succ]
                refine wpAnyH_take (i := 7) (oi := { dst := some 86, op := _, type := _, pos := _, after := _, guard := _ }) (v := .bool O) rfl (by kernel_rfl) (by kernel_rfl) (by kernel_rfl) (fun _ _ _ h => h) (Or.inl ⟨by rfl, by intro w hSw; clear hSw; go_simp; (try with_reducible rfl)⟩) (by assumption) ?_
                try simp only [Act.put, List.setIfInBounds_toArray, List.set_cons_zero, List.set_cons_succ]
                refine wpAnyH_ready (rs := [8]) (by kernel_rfl) (by simp) ?_
                refine AllReadyH.cons rfl (fun K hK => ?_) AllReadyH.nil
                rw [if_pos (by rfl)]
                refine wp_allocRp rfl ?_
                have KN := Rp.new x3 (fun _ => 0) (.slice none 0 0) 34
                have HNB : Hid (s7 ≤ x3.heap.size) := Nat.le_trans HSZ0.out HBX.out.size
                have HNE : Hid (∀ k, (Value.slice a7 m c7).ownBlock = some k → k = x3.heap.size → False) := fun k e q => by have := (OZ.lt k e).2; omega
                have K0 := K0.alloc (.cells (rpl (fun _ => 0) (.slice none 0 0)) 34)
                have T0 := T0.alloc (.cells (rpl (fun _ => 0) (.slice none 0 0)) 34)
                have K6 := K6.alloc (.cells (rpl (fun _ => 0) (.slice none 0 0)) 34)
                have O5 := O5.alloc (.cells (rpl (fun _ => 0) (.slice none 0 0)) 34)
                have K9 := K9.alloc (.cells (rpl (fun _ => 0) (.slice none 0 0)) 34)
                have O9m := O9m.alloc (.cells (rpl (fun _ => 0) (.slice none 0 0)) 34)
                have OZ := OZ.alloc (.cells (rpl (fun _ => 0) (.slice none 0 0)) 34)
                have HB : Hid (Below w.heap.size w (x3.alloc (.cells (rpl (fun _ => 0) (.slice none 0 0)) 34))) := HB.out.alloc HB.out.size _
                have HBX : Hid (Below v25.heap.size v25 (x3.alloc (.cells (rpl (fun _ => 0) (.slice none 0 0)) 34))) := HBX.out.alloc HBX.out.size _
                clear hHeld
                generalize x3.alloc (.cells (rpl (fun _ => 0) (.slice none 0 0)) 34) = x4 at *
                generalize x3.heap.size = bn at *
                refine hK.out _ _ ⟨K0, T0⟩ (fun hHeld => ?_)
                clear hK K
                try simp only [Act.put, List.setIfInBounds_toArray, List.set_cons_zero, List.set_cons_succ]
                refine wpAnyH_ready (rs := [9]) (by kernel_rfl) (by simp) ?_
                refine AllReadyH.cons rfl (fun K hK => ?_) AllReadyH.nil
                have st1 := run_store_rp (g := F) (a := a7) (n := m) (c := c7) KN
                have ms1 : (rpl F (.slice a7 m c7)).size = 17 := rpl_size _ _
                go_simp
                clear st1 ms1
                have hg8 := grown_rp KN (rpl F (.slice a7 m c7))
                have OZ : OwnT (x4.setRow bn (rpl F (.slice a7 m c7))) s7 (.slice a7 m c7) m H := OZ.kept hg8 (fun q => HNE.out _ q rfl)
                have K0 := K0.rowOther bn (rpl F (.slice a7 m c7)) (by have := HNB.out; have := HLT.out; have := H65.out; have := HX6.out.1; have := HXX.out; have := H9.out; omega)
                have T0 := T0.rowOther bn (rpl F (.slice a7 m c7)) (by have := HNB.out; have := HLT.out; have := H65.out; have := HX6.out.1; have := HXX.out; have := H9.out; omega)
                have K6 := K6.rowOther bn (rpl F (.slice a7 m c7)) (by have := HNB.out; have := HLT.out; have := H65.out; have := HX6.out.1; have := HXX.out; have := H9.out; omega)
                have O5 := O5.kept hg8 (fun q => by have := HOB.out _ q; have := HNB.out; omega)
                have K9 := K9.rowOther bn (rpl F (.slice a7 m c7)) (by have := HNB.out; have := HLT.out; have := H65.out; have := HX6.out.1; have := HXX.out; have := H9.out; omega)
                have O9m := O9m.kept hg8 (fun q => by have := HOM.out _ q; have := HNB.out; omega)
                have HB : Hid (Below w.heap.size w (x4.setRow bn (rpl F (.slice a7 m c7)))) := below_setRow HB.out (by have := HNB.out; have := HLT.out; have := H65.out; have := HX6.out.1; have := HXX.out; have := H9.out; omega) _
                have KN := KN.row F (.slice a7 m c7)
                clear hHeld hg8
                generalize x4.setRow bn (rpl F (.slice a7 m c7)) = x5 at *
                refine hK.out _ _ ⟨K0, T0⟩ (fun hHeld => ?_)
                clear hK K
                try simp only [Act.put, List.setIfInBounds_toArray, List.set_cons_zero, List.set_cons_succ]
                refine wpAnyH_take (i := 10) (oi := { dst := some 15, op := _, type := _, pos := _, after := _, guard := _ }) (v := .bool O) rfl (by kernel_rfl) (by kernel_rfl) (by kernel_rfl) (fun _ _ _ h => h) (Or.inl ⟨by rfl, by intro w hSw; clear hSw; go_simp; (try with_reducible rfl)⟩) (by assumption) ?_
                try simp only [Act.put, List.setIfInBounds_toArray, List.set_cons_zero, List.set_cons_succ]
                refine wpAnyH_done (by kernel_rfl) ?_ _
                clear hHeld
                go_wp2_with fail
                go_meet
                case rel => exact ⟨bn, s7, a7, c7, rfl, rfl, K0, T0, K6, O5, K9, O9m, KN, OZ, HB.out⟩
              refine AllReadyH.cons rfl (fun K hK => ?_) AllReadyH.nil
              rw [if_pos (by rfl)]
              refine wp_allocRp rfl ?_
              have KN := Rp.new x2 (fun _ => 0) (.slice none 0 0) 34
              have HNB : Hid (s7 ≤ x2.heap.size) := Nat.le_trans HSZ0.out HBX.out.size
              have K0 := K0.alloc (.cells (rpl (fun _ => 0) (.slice none 0 0)) 34)
              have T0 := T0.alloc (.cells (rpl (fun _ => 0) (.slice none 0 0)) 34)
              have K6 := K6.alloc (.cells (rpl (fun _ => 0) (.slice none 0 0)) 34)
              have O5 := O5.alloc (.cells (rpl (fun _ => 0) (.slice none 0 0)) 34)
              have K9 := K9.alloc (.cells (rpl (fun _ => 0) (.slice none 0 0)) 34)
              have O9m := O9m.alloc (.cells (rpl (fun _ => 0) (.slice none 0 0)) 34)
              have CG := CG.alloc (.cells (rpl (fun _ => 0) (.slice none 0 0)) 34)
              have HB : Hid (Below w.heap.size w (x2.alloc (.cells (rpl (fun _ => 0) (.slice none 0 0)) 34))) := HB.out.alloc HB.out.size _
              have HBX : Hid (Below v25.heap.size v25 (x2.alloc (.cells (rpl (fun _ => 0) (.slice none 0 0)) 34))) := HBX.out.alloc HBX.out.size _
              clear hHeld
              generalize x2.alloc (.cells (rpl (fun _ => 0) (.slice none 0 0)) 34) = x3 at *
              generalize x2.heap.size = bn at *
              refine hK.out _ _ ⟨K0, T0⟩ (fun hHeld => ?_)
              clear hK K
              try simp only [Act.put, List.setIfInBounds_toArray, List.set_cons_zero, List.set_cons_succ]
              refine wpAnyH_ready (rs := [4]) (by kernel_rfl) (by simp) ?_
              refine AllReadyH.cons rfl (fun K hK => ?_) AllReadyH.nil
              go_simp
              refine (HIM.out _ _ ⟨_, _, rfl, Nat.le_refl _, CG⟩ HN.out).mono ?_
              rintro e x4 ⟨a7, c7, rfl, ho, hb⟩
              have HNE : Hid (∀ k, (Value.slice a7 m c7).ownBlock = some k → k = bn → False) := fun k e q => by have := (ho.lt k e).1; have := KN.lt; omega
              have K0 := K0.below hb K0.lt
              have T0 := T0.below hb T0.lt
              have K6 := K6.below hb K6.lt
              have O5 := O5.below hb
              have K9 := K9.below hb K9.lt
              have O9m := O9m.below hb
              have CG := CG.below hb
              have KN := KN.below hb KN.lt
              have HB : Hid (Below w.heap.size w x4) := below3 HB.out hb
              have OZ : OwnT x4 s7 (.slice a7 m c7) m H := ho.wide (Nat.le_trans HS5.out HBX.out.size)
              have HBX : Hid (Below v25.heap.size v25 x4) := below3 HBX.out hb
              clear hb hHeld ho
              go_wp2_with fail
              refine hK.out _ _ ⟨K0, T0⟩ (fun hHeld => ?_)
              clear hK K
              try simp only [Act.put, List.setIfInBounds_toArray, List.set_cons_zero, List.set_cons_succ]
              refine wpAnyH_take (i := 5) (oi := { dst := some 79, op := _, type := _, pos := _, after := _, guard := _ }) (v := .tuple #[.agg (rpl F (.slice a7 m c7)), .bool O]) rfl (by kernel_rfl) (by kernel_rfl) (by kernel_rfl) (fun _ _ _ h => h) (Or.inl ⟨by rfl, by intro w hSw; clear hSw; go_simp; (try with_reducible rfl)⟩) (by assumption) ?_
              try simp only [Act.put, List.setIfInBounds_toArray, List.set_cons_zero, List.set_cons_succ]
              refine wpAnyH_take (i := 6) (oi := { dst := some 85, op := _, type := _, pos := _, after := _, guard := _ }) (v := .agg (rpl F (.slice a7 m c7))) rfl (by kernel_rfl) (by kernel_rfl) (by kernel_rfl) (fun _ _ _ h => h) (Or.inl ⟨by rfl, by intro w hSw; clear hSw; go_simp; (try with_reducible rfl)⟩) (by assumption) ?_
              try simp only [Act.put, List.setIfInBounds_toArray, List.set_cons_zero, List.set_cons_succ]
              refine wpAnyH_take (i := 7) (oi := { dst := some 86, op := _, type := _, pos := _, after := _, guard := _ }) (v := .bool O) rfl (by kernel_rfl) (by kernel_rfl) (by kernel_rfl) (fun _ _ _ h => h) (Or.inl ⟨by rfl, by intro w hSw; clear hSw; go_simp; (try with_reducible rfl)⟩) (by assumption) ?_
              try simp only [Act.put, List.setIfInBounds_toArray, List.set_cons_zero, List.set_cons_succ]
              refine wpAnyH_ready (rs := [9]) (by kernel_rfl) (by simp) ?_
              refine AllReadyH.cons rfl (fun K hK => ?_) AllReadyH.nil
              have st1 := run_store_rp (g := F) (a := a7) (n := m) (c := c7) KN
              have ms1 : (rpl F (.slice a7 m c7)).size = 17 := rpl_size _ _
              go_simp
              clear st1 ms1
              have hg8 := grown_rp KN (rpl F (.slice a7 m c7))
              have OZ : OwnT (x4.setRow bn (rpl F (.slice a7 m c7))) s7 (.slice a7 m c7) m H := OZ.kept hg8 (fun q => HNE.out _ q rfl)
              have K0 := K0.rowOther bn (rpl F (.slice a7 m c7)) (by have := HNB.out; have := HLT.out; have := H65.out; have := HX6.out.1; have := HXX.out; have := H9.out; omega)
              have T0 := T0.rowOther bn (rpl F (.slice a7 m c7)) (by have := HNB.out; have := HLT.out; have := H65.out; have := HX6.out.1; have := HXX.out; have := H9.out; omega)
              have K6 := K6.rowOther bn (rpl F (.slice a7 m c7)) (by have := HNB.out; have := HLT.out; have := H65.out; have := HX6.out.1; have := HXX.out; have := H9.out; omega)
              have O5 := O5.kept hg8 (fun q => by have := HOB.out _ q; have := HNB.out; omega)
              have K9 := K9.rowOther bn (rpl F (.slice a7 m c7)) (by have := HNB.out; have := HLT.out; have := H65.out; have := HX6.out.1; have := HXX.out; have := H9.out; omega)
              have O9m := O9m.kept hg8 (fun q => by have := HOM.out _ q; have := HNB.out; omega)
              have HB : Hid (Below w.heap.size w (x4.setRow bn (rpl F (.slice a7 m c7)))) := below_setRow HB.out (by have := HNB.out; have := HLT.out; have := H65.out; have := HX6.out.1; have := HXX.out; have := H9.out; omega) _
              have KN := KN.row F (.slice a7 m c7)
              clear hHeld hg8
              generalize x4.setRow bn (rpl F (.slice a7 m c7)) = x5 at *
              refine hK.out _ _ ⟨K0, T0⟩ (fun hHeld => ?_)
              clear hK K
              try simp only [Act.put, List.setIfInBounds_toArray, List.set_cons_zero, List.set_cons_succ]
              refine wpAnyH_take (i := 10) (oi := { dst := some 15, op := _, type := _, pos := _, after := _, guard := _ }) (v := .bool O) rfl (by kernel_rfl) (by kernel_rfl) (by kernel_rfl) (fun _ _ _ h => h) (Or.inl ⟨by rfl, by intro w hSw; clear hSw; go_simp; (try with_reducible rfl)⟩) (by assumption) ?_
              try simp only [Act.put, List.setIfInBounds_toArray, List.set_cons_zero, List.set_cons_succ]
              refine wpAnyH_done (by kernel_rfl) ?_ _
              clear hHeld
              go_wp2_with fail
              go_meet
              case rel => exact ⟨bn, s7, a7, c7, rfl, rfl, K0, T0, K6, O5, K9, O9m, KN, OZ, HB.out⟩
            refine AllReadyH.cons rfl (fun K hK => ?_) AllReadyH.nil
            rw [if_pos (by rfl)]
            refine wp_allocRp rfl ?_
            have KN := Rp.new x1 (fun _ => 0) (.slice none 0 0) 34
            have HNB : Hid (s7 ≤ x1.heap.size) := Nat.le_trans HSZ0.out HBX.out.size
            have K0 := K0.alloc (.cells (rpl (fun _ => 0) (.slice none 0 0)) 34)
            have T0 := T0.alloc (.cells (rpl (fun _ => 0) (.slice none 0 0)) 34)
            have K6 := K6.alloc (.cells (rpl (fun _ => 0) (.slice none 0 0)) 34)
            have O5 := O5.alloc (.cells (rpl (fun _ => 0) (.slice none 0 0)) 34)
            have K9 := K9.alloc (.cells (rpl (fun _ => 0) (.slice none 0 0)) 34)
            have O9m := O9m.alloc (.cells (rpl (fun _ => 0) (.slice none 0 0)) 34)
            have CG := CG.alloc (.cells (rpl (fun _ => 0) (.slice none 0 0)) 34)
            have HB : Hid (Below w.heap.size w (x1.alloc (.cells (rpl (fun _ => 0) (.slice none 0 0)) 34))) := HB.out.alloc HB.out.size _
            have HBX : Hid (Below v25.heap.size v25 (x1.alloc (.cells (rpl (fun _ => 0) (.slice none 0 0)) 34))) := HBX.out.alloc HBX.out.size _
            clear hHeld
            generalize x1.alloc (.cells (rpl (fun _ => 0) (.slice none 0 0)) 34) = x2 at *
            generalize x1.heap.size = bn at *
            refine hK.out _ _ ⟨K0, T0⟩ (fun hHeld => ?_)
            clear hK K
            try simp only [Act.put, List.setIfInBounds_toArray, List.set_cons_zero, List.set_cons_succ]
            refine wpAnyH_ready (rs := [3]) (by kernel_rfl) (by simp) ?_
            refine AllReadyH.cons rfl (fun K hK => ?_) AllReadyH.nil
            go_simp
            refine (toStep_any a1 _).mono ?_
            rintro e x3 ⟨rfl, hb⟩
            have K0 := K0.below hb K0.lt
            have T0 := T0.below hb T0.lt
            have K6 := K6.below hb K6.lt
            have O5 := O5.below hb
            have K9 := K9.below hb K9.lt
            have O9m := O9m.below hb
            have CG := CG.below hb
            have KN := KN.below hb KN.lt
            have HB : Hid (Below w.heap.size w x3) := below3 HB.out hb
            have HBX : Hid (Below v25.heap.size v25 x3) := below3 HBX.out hb
            clear hb hHeld
            go_wp2_with fail
            refine hK.out _ _ ⟨K0, T0⟩ (fun hHeld => ?_)
            clear hK K
            try simp only [Act.put, List.setIfInBounds_toArray, List.set_cons_zero, List.set_cons_succ]
            refine wpAnyH_ready (rs := [4]) (by kernel_rfl) (by simp) ?_
            refine AllReadyH.cons rfl (fun K hK => ?_) AllReadyH.nil
            go_simp
            refine (HIM.out _ _ ⟨_, _, rfl, Nat.le_refl _, CG⟩ HN.out).mono ?_
            rintro e x4 ⟨a7, c7, rfl, ho, hb⟩
            have HNE : Hid (∀ k, (Value.slice a7 m c7).ownBlock = some k → k = bn → False) := fun k e q => by have := (ho.lt k e).1; have := KN.lt; omega
            have K0 := K0.below hb K0.lt
            have T0 := T0.below hb T0.lt
            have K6 := K6.below hb K6.lt
            have O5 := O5.below hb
            have K9 := K9.below hb K9.lt
            have O9m := O9m.below hb
            have CG := CG.below hb
            have KN := KN.below hb KN.lt
            have HB : Hid (Below w.heap.size w x4) := below3 HB.out hb
            have OZ : OwnT x4 s7 (.slice a7 m c7) m H := ho.wide (Nat.le_trans HS5.out HBX.out.size)
            have HBX : Hid (Below v25.heap.size v25 x4) := below3 HBX.out hb
            clear hb hHeld ho
            go_wp2_with fail
            refine hK.out _ _ ⟨K0, T0⟩ (fun hHeld => ?_)
            clear hK K
            try simp only [Act.put, List.setIfInBounds_toArray, List.set_cons_zero, List.set_cons_succ]
            refine wpAnyH_take (i := 5) (oi := { dst := some 79, op := _, type := _, pos := _, after := _, guard := _ }) (v := .tuple #[.agg (rpl F (.slice a7 m c7)), .bool O]) rfl (by kernel_rfl) (by kernel_rfl) (by kernel_rfl) (fun _ _ _ h => h) (Or.inl ⟨by rfl, by intro w hSw; clear hSw; go_simp; (try with_reducible rfl)⟩) (by assumption) ?_
            try simp only [Act.put, List.setIfInBounds_toArray, List.set_cons_zero, List.set_cons_succ]
            refine wpAnyH_take (i := 6) (oi := { dst := some 85, op := _, type := _, pos := _, after := _, guard := _ }) (v := .agg (rpl F (.slice a7 m c7))) rfl (by kernel_rfl) (by kernel_rfl) (by kernel_rfl) (fun _ _ _ h => h) (Or.inl ⟨by rfl, by intro w hSw; clear hSw; go_simp; (try with_reducible rfl)⟩) (by assumption) ?_
            try simp only [Act.put, List.setIfInBounds_toArray, List.set_cons_zero, List.set_cons_succ]
            refine wpAnyH_take (i := 7) (oi := { dst := some 86, op := _, type := _, pos := _, after := _, guard := _ }) (v := .bool O) rfl (by kernel_rfl) (by kernel_rfl) (by kernel_rfl) (fun _ _ _ h => h) (Or.inl ⟨by rfl, by intro w hSw; clear hSw; go_simp; (try with_reducible rfl)⟩) (by assumption) ?_
            try simp only [Act.put, List.setIfInBounds_toArray, List.set_cons_zero, List.set_cons_succ]
            refine wpAnyH_ready (rs := [9]) (by kernel_rfl) (by simp) ?_
            refine AllReadyH.cons rfl (fun K hK => ?_) AllReadyH.nil
            have st1 := run_store_rp (g := F) (a := a7) (n := m) (c := c7) KN
            have ms1 : (rpl F (.slice a7 m c7)).size = 17 := rpl_size _ _
            go_simp
            clear st1 ms1
            have hg8 := grown_rp KN (rpl F (.slice a7 m c7))
            have OZ : OwnT (x4.setRow bn (rpl F (.slice a7 m c7))) s7 (.slice a7 m c7) m H := OZ.kept hg8 (fun q => HNE.out _ q rfl)
            have K0 := K0.rowOther bn (rpl F (.slice a7 m c7)) (by have := HNB.out; have := HLT.out; have := H65.out; have := HX6.out.1; have := HXX.out; have := H9.out; omega)
            have T0 := T0.rowOther bn (rpl F (.slice a7 m c7)) (by have := HNB.out; have := HLT.out; have := H65.out; have := HX6.out.1; have := HXX.out; have := H9.out; omega)
            have K6 := K6.rowOther bn (rpl F (.slice a7 m c7)) (by have := HNB.out; have := HLT.out; have := H65.out; have := HX6.out.1; have := HXX.out; have := H9.out; omega)
            have O5 := O5.kept hg8 (fun q => by have := HOB.out _ q; have := HNB.out; omega)
            have K9 := K9.rowOther bn (rpl F (.slice a7 m c7)) (by have := HNB.out; have := HLT.out; have := H65.out; have := HX6.out.1; have := HXX.out; have := H9.out; omega)
            have O9m := O9m.kept hg8 (fun q => by have := HOM.out _ q; have := HNB.out; omega)
            have HB : Hid (Below w.heap.size w (x4.setRow bn (rpl F (.slice a7 m c7)))) := below_setRow HB.out (by have := HNB.out; have := HLT.out; have := H65.out; have := HX6.out.1; have := HXX.out; have := H9.out; omega) _
            have KN := KN.row F (.slice a7 m c7)
            clear hHeld hg8
            generalize x4.setRow bn (rpl F (.slice a7 m c7)) = x5 at *
            refine hK.out _ _ ⟨K0, T0⟩ (fun hHeld => ?_)
            clear hK K
            try simp only [Act.put, List.setIfInBounds_toArray, List.set_cons_zero, List.set_cons_succ]
            refine wpAnyH_take (i := 10) (oi := { dst := some 15, op := _, type := _, pos := _, after := _, guard := _ }) (v := .bool O) rfl (by kernel_rfl) (by kernel_rfl) (by kernel_rfl) (fun _ _ _ h => h) (Or.inl ⟨by rfl, by intro w hSw; clear hSw; go_simp; (try with_reducible rfl)⟩) (by assumption) ?_
            try simp only [Act.put, List.setIfInBounds_toArray, List.set_cons_zero, List.set_cons_succ]
            refine wpAnyH_done (by kernel_rfl) ?_ _
            clear hHeld
            go_wp2_with fail
            go_meet
            case rel => exact ⟨bn, s7, a7, c7, rfl, rfl, K0, T0, K6, O5, K9, O9m, KN, OZ, HB.out⟩
          refine AllReadyH.cons rfl (fun K hK => ?_) AllReadyH.nil
          rw [if_pos (by rfl)]
          refine wp_allocRp rfl ?_
          have KN := Rp.new x0 (fun _ => 0) (.slice none 0 0) 34
          have HNB : Hid (s7 ≤ x0.heap.size) := Nat.le_trans HSZ0.out HBX.out.size
          have K0 := K0.alloc (.cells (rpl (fun _ => 0) (.slice none 0 0)) 34)
          have T0 := T0.alloc (.cells (rpl (fun _ => 0) (.slice none 0 0)) 34)
          have K6 := K6.alloc (.cells (rpl (fun _ => 0) (.slice none 0 0)) 34)
          have O5 := O5.alloc (.cells (rpl (fun _ => 0) (.slice none 0 0)) 34)
          have K9 := K9.alloc (.cells (rpl (fun _ => 0) (.slice none 0 0)) 34)
          have O9m := O9m.alloc (.cells (rpl (fun _ => 0) (.slice none 0 0)) 34)
          have HB : Hid (Below w.heap.size w (x0.alloc (.cells (rpl (fun _ => 0) (.slice none 0 0)) 34))) := HB.out.alloc HB.out.size _
          have HBX : Hid (Below v25.heap.size v25 (x0.alloc (.cells (rpl (fun _ => 0) (.slice none 0 0)) 34))) := HBX.out.alloc HBX.out.size _
          clear hHeld
          generalize x0.alloc (.cells (rpl (fun _ => 0) (.slice none 0 0)) 34) = x1 at *
          generalize x0.heap.size = bn at *
          refine hK.out _ _ ⟨K0, T0⟩ (fun hHeld => ?_)
          clear hK K
          try simp only [Act.put, List.setIfInBounds_toArray, List.set_cons_zero, List.set_cons_succ]
          refine wpAnyH_ready (rs := [1]) (by kernel_rfl) (by simp) ?_
          refine AllReadyH.cons rfl (fun K hK => ?_) AllReadyH.nil
          go_simp
          refine (toReplay_any a0 _ len0 h _ (HZ.out.below HB.out) HN.out).mono ?_
          rintro e x2 ⟨g1, rfl, r1, _, hb⟩
          have K0 := K0.below hb K0.lt
          have T0 := T0.below hb T0.lt
          have K6 := K6.below hb K6.lt
          have O5 := O5.below hb
          have K9 := K9.below hb K9.lt
          have O9m := O9m.below hb
          have KN := KN.below hb KN.lt
          have HB : Hid (Below w.heap.size w x2) := below3 HB.out hb
          have HBX : Hid (Below v25.heap.size v25 x2) := below3 HBX.out hb
          have CG : CAt x2 g1 (len0 * 4) h := r1.at
          clear hb hHeld r1
          go_wp2_with fail
          refine hK.out _ _ ⟨K0, T0⟩ (fun hHeld => ?_)
          clear hK K
          try simp only [Act.put, List.setIfInBounds_toArray, List.set_cons_zero, List.set_cons_succ]
          refine wpAnyH_ready (rs := [3]) (by kernel_rfl) (by simp) ?_
          refine AllReadyH.cons rfl (fun K hK => ?_) AllReadyH.nil
          go_simp
          refine (toStep_any a1 _).mono ?_
          rintro e x3 ⟨rfl, hb⟩
          have K0 := K0.below hb K0.lt
          have T0 := T0.below hb T0.lt
          have K6 := K6.below hb K6.lt
          have O5 := O5.below hb
          have K9 := K9.below hb K9.lt
          have O9m := O9m.below hb
          have KN := KN.below hb KN.lt
          have CG := CG.below hb
          have HB : Hid (Below w.heap.size w x3) := below3 HB.out hb
          have HBX : Hid (Below v25.heap.size v25 x3) := below3 HBX.out hb
          clear hb hHeld
          go_wp2_with fail
          refine hK.out _ _ ⟨K0, T0⟩ (fun hHeld => ?_)
          clear hK K
          try simp only [Act.put, List.setIfInBounds_toArray, List.set_cons_zero, List.set_cons_succ]
          refine wpAnyH_ready (rs := [4]) (by kernel_rfl) (by simp) ?_
          refine AllReadyH.cons rfl (fun K hK => ?_) AllReadyH.nil
          go_simp
          refine (HIM.out _ _ ⟨_, _, rfl, Nat.le_refl _, CG⟩ HN.out).mono ?_
          rintro e x4 ⟨a7, c7, rfl, ho, hb⟩
          have HNE : Hid (∀ k, (Value.slice a7 m c7).ownBlock = some k → k = bn → False) := fun k e q => by have := (ho.lt k e).1; have := KN.lt; omega
          have K0 := K0.below hb K0.lt
          have T0 := T0.below hb T0.lt
          have K6 := K6.below hb K6.lt
          have O5 := O5.below hb
          have K9 := K9.below hb K9.lt
          have O9m := O9m.below hb
          have KN := KN.below hb KN.lt
          have CG := CG.below hb
          have HB : Hid (Below w.heap.size w x4) := below3 HB.out hb
          have OZ : OwnT x4 s7 (.slice a7 m c7) m H := ho.wide (Nat.le_trans HS5.out HBX.out.size)
          have HBX : Hid (Below v25.heap.size v25 x4) := below3 HBX.out hb
          clear hb hHeld ho
          go_wp2_with fail
          refine hK.out _ _ ⟨K0, T0⟩ (fun hHeld => ?_)
          clear hK K
          try simp only [Act.put, List.setIfInBounds_toArray, List.set_cons_zero, List.set_cons_succ]
          refine wpAnyH_take (i := 5) (oi := { dst := some 79, op := _, type := _, pos := _, after := _, guard := _ }) (v := .tuple #[.agg (rpl F (.slice a7 m c7)), .bool O]) rfl (by kernel_rfl) (by kernel_rfl) (by kernel_rfl) (fun _ _ _ h => h) (Or.inl ⟨by rfl, by intro w hSw; clear hSw; go_simp; (try with_reducible rfl)⟩) (by assumption) ?_
          try simp only [Act.put, List.setIfInBounds_toArray, List.set_cons_zero, List.set_cons_succ]
          refine wpAnyH_take (i := 6) (oi := { dst := some 85, op := _, type := _, pos := _, after := _, guard := _ }) (v := .agg (rpl F (.slice a7 m c7))) rfl (by kernel_rfl) (by kernel_rfl) (by kernel_rfl) (fun _ _ _ h => h) (Or.inl ⟨by rfl, by intro w hSw; clear hSw; go_simp; (try with_reducible rfl)⟩) (by assumption) ?_
          try simp only [Act.put, List.setIfInBounds_toArray, List.set_cons_zero, List.set_cons_succ]
          refine wpAnyH_take (i := 7) (oi := { dst := some 86, op := _, type := _, pos := _, after := _, guard := _ }) (v := .bool O) rfl (by kernel_rfl) (by kernel_rfl) (by kernel_rfl) (fun _ _ _ h => h) (Or.inl ⟨by rfl, by intro w hSw; clear hSw; go_simp; (try with_reducible rfl)⟩) (by assumption) ?_
          try simp only [Act.put, List.setIfInBounds_toArray, List.set_cons_zero, List.set_cons_succ]
          refine wpAnyH_ready (rs := [9]) (by kernel_rfl) (by simp) ?_
          refine AllReadyH.cons rfl (fun K hK => ?_) AllReadyH.nil
          have st1 := run_store_rp (g := F) (a := a7) (n := m) (c := c7) KN
          have ms1 : (rpl F (.slice a7 m c7)).size = 17 := rpl_size _ _
          go_simp
          clear st1 ms1
          have hg8 := grown_rp KN (rpl F (.slice a7 m c7))
          have OZ : OwnT (x4.setRow bn (rpl F (.slice a7 m c7))) s7 (.slice a7 m c7) m H := OZ.kept hg8 (fun q => HNE.out _ q rfl)
          have K0 := K0.rowOther bn (rpl F (.slice a7 m c7)) (by have := HNB.out; have := HLT.out; have := H65.out; have := HX6.out.1; have := HXX.out; have := H9.out; omega)
          have T0 := T0.rowOther bn (rpl F (.slice a7 m c7)) (by have := HNB.out; have := HLT.out; have := H65.out; have := HX6.out.1; have := HXX.out; have := H9.out; omega)
          have K6 := K6.rowOther bn (rpl F (.slice a7 m c7)) (by have := HNB.out; have := HLT.out; have := H65.out; have := HX6.out.1; have := HXX.out; have := H9.out; omega)
          have O5 := O5.kept hg8 (fun q => by have := HOB.out _ q; have := HNB.out; omega)
          have K9 := K9.rowOther bn (rpl F (.slice a7 m c7)) (by have := HNB.out; have := HLT.out; have := H65.out; have := HX6.out.1; have := HXX.out; have := H9.out; omega)
          have O9m := O9m.kept hg8 (fun q => by have := HOM.out _ q; have := HNB.out; omega)
          have HB : Hid (Below w.heap.size w (x4.setRow bn (rpl F (.slice a7 m c7)))) := below_setRow HB.out (by have := HNB.out; have := HLT.out; have := H65.out; have := HX6.out.1; have := HXX.out; have := H9.out; omega) _
          have KN := KN.row F (.slice a7 m c7)
          clear hHeld hg8
          generalize x4.setRow bn (rpl F (.slice a7 m c7)) = x5 at *
          refine hK.out _ _ ⟨K0, T0⟩ (fun hHeld => ?_)
          clear hK K
          try simp only [Act.put, List.setIfInBounds_toArray, List.set_cons_zero, List.set_cons_succ]
          refine wpAnyH_take (i := 10) (oi := { dst := some 15, op := _, type := _, pos := _, after := _, guard := _ }) (v := .bool O) rfl (by kernel_rfl) (by kernel_rfl) (by kernel_rfl) (fun _ _ _ h => h) (Or.inl ⟨by rfl, by intro w hSw; clear hSw; go_simp; (try with_reducible rfl)⟩) (by assumption) ?_
          try simp only [Act.put, List.setIfInBounds_toArray, List.set_cons_zero, List.set_cons_succ]
          refine wpAnyH_done (by kernel_rfl) ?_ _
          clear hHeld
          go_wp2_with fail
          go_meet
          case rel => exact ⟨bn, s7, a7, c7, rfl, rfl, K0, T0, K6, O5, K9, O9m, KN, OZ, HB.out⟩
        case rest =>
          obtain ⟨b7, s7, a7, c7, rfl, rfl, K0, T0, K6, O5, K9, O9m, KZ, OZ, hb7⟩ := hcut
          have HB := Lib.hid hb7
          clear hb7 hK9 hO9
          go_wp2_with (first | ((with_reducible show wpList _ _ _ (Oper.mk _ (Op.load 34 _) _ _ _ _ :: _) _ _); refine loadRp (KZ) rfl rfl rfl ?_) | ((with_reducible show wpList _ _ _ (Oper.mk _ (Op.load 34 _) _ _ _ _ :: _) _ _); refine loadRp (K6) rfl rfl rfl ?_))
          refine (eqReplay_own F _ OZ O5 hm).mono ?_
          rintro e v26 ⟨rfl, hb⟩
          have K0 := K0.below hb K0.lt
          have T0 := T0.below hb T0.lt
          have K6 := K6.below hb K6.lt
          have O5 := O5.below hb
          have K9 := K9.below hb K9.lt
          have O9m := O9m.below hb
          have KZ := KZ.below hb KZ.lt
          have OZ := OZ.below hb
          have HB : Hid (Below w.heap.size w v26) := below3 HB.out hb
          clear hb
          go_wp2_with ((with_reducible show wpList _ _ _ (Oper.mk _ (Op.load 34 _) _ _ _ _ :: _) _ _); refine loadRp (K9) rfl rfl rfl ?_)
          refine (heldReplay_own F _ O9m hm).mono ?_
          rintro e v27 ⟨rfl, hb⟩
          have K0 := K0.below hb K0.lt
          have T0 := T0.below hb T0.lt
          have K6 := K6.below hb K6.lt
          have O5 := O5.below hb
          have K9 := K9.below hb K9.lt
          have O9m := O9m.below hb
          have KZ := KZ.below hb KZ.lt
          have OZ := OZ.below hb
          have HB : Hid (Below w.heap.size w v27) := below3 HB.out hb
          clear hb
          go_wp2_with fail
          go_ret
          exact ⟨rfl, HB.out⟩

noncomputable def laidWorld (os : Os) : World := World.holding Try.prog os ⟨#[], #[], []⟩
theorem laid_met (os : Os) : laidMet Try.prog Rows.fnExactAddStepRow.laid ((laidWorld os).forCall (fun _ _ => 0) ⟨#[], #[.agg #[.int .i64 0, .int .i64 0, .int .i64 0, .int .i64 0, .int .i64 0, .int .i64 0, .int .i64 0, .int .i64 0, .int .i64 0, .int .i64 0, .int .i64 0, .int .i64 0, .int .i64 0, .int .i64 0, .int .i64 0, .int .i64 0, .slice none 0 0], .agg #[.int .i64 0, .int .i64 0, .int .i64 0, .int .i64 0]], []⟩).memory := laidMet_of_run' 8 (by kernel_rfl) (by kernel_rfl)
theorem reads (os : Os) {H : Type} (enc : TypeId × Value → H) : ∃ places, DataW.whole enc Try.prog ((laidWorld os).forCall (fun _ _ => 0) ⟨#[], #[.agg #[.int .i64 0, .int .i64 0, .int .i64 0, .int .i64 0, .int .i64 0, .int .i64 0, .int .i64 0, .int .i64 0, .int .i64 0, .int .i64 0, .int .i64 0, .int .i64 0, .int .i64 0, .int .i64 0, .int .i64 0, .int .i64 0, .slice none 0 0], .agg #[.int .i64 0, .int .i64 0, .int .i64 0, .int .i64 0]], []⟩).memory Try.f6.params.toList Rows.fnExactAddStepSpec.vars false #[.agg #[.int .i64 0, .int .i64 0, .int .i64 0, .int .i64 0, .int .i64 0, .int .i64 0, .int .i64 0, .int .i64 0, .int .i64 0, .int .i64 0, .int .i64 0, .int .i64 0, .int .i64 0, .int .i64 0, .int .i64 0, .int .i64 0, .slice none 0 0], .agg #[.int .i64 0, .int .i64 0, .int .i64 0, .int .i64 0]].toList 8 = some ([.agg [.agg [.agg [.agg [.lit (.int .i64 0), .lit (.int .i64 0), .lit (.int .i64 0), .lit (.int .i64 0)], .agg [.lit (.int .i64 0), .lit (.int .i64 0), .lit (.int .i64 0), .lit (.int .i64 0)], .agg [.lit (.int .i64 0), .lit (.int .i64 0), .lit (.int .i64 0), .lit (.int .i64 0)], .agg [.lit (.int .i64 0), .lit (.int .i64 0), .lit (.int .i64 0), .lit (.int .i64 0)]]], .nil], .agg [.lit (.int .i64 0), .agg [.lit (.int .i64 0), .lit (.int .i64 0)], .lit (.int .i64 0)]], [], places) :=
  ⟨[], by kernel_rfl⟩
set_option linter.unusedVariables false in
set_option maxRecDepth 100000 in
theorem lifted (os : Os) (started : os.Started) (H : Type) (enc : TypeId × Value → H) (F : Stop.Interp) :
    ReturnsInHanded {} Try.checked os 6 .any ((OpenSpec.ofChange Rows.fnExactAddStepSpec).preRow enc Try.prog Try.f6 Rows.fnExactAddStepRow.domain false Rows.fnExactAddStepRow.laid) (((OpenSpec.ofChange Rows.fnExactAddStepSpec).at F).post enc Try.prog Try.f6 false true false false) := by
  obtain ⟨places, hx⟩ := reads os enc
  refine returnsInHanded_of_row (C := Try.checked) (s := (OpenSpec.ofChange Rows.fnExactAddStepSpec)) own started (by kernel_rfl) Try.func6
    (witness_row_at (enc := enc) (C := Try.checked) false (laidWorld os) #[.agg #[.int .i64 0, .int .i64 0, .int .i64 0, .int .i64 0, .int .i64 0, .int .i64 0, .int .i64 0, .int .i64 0, .int .i64 0, .int .i64 0, .int .i64 0, .int .i64 0, .int .i64 0, .int .i64 0, .int .i64 0, .int .i64 0, .slice none 0 0], .agg #[.int .i64 0, .int .i64 0, .int .i64 0, .int .i64 0]] rfl (by kernel_rfl) (by kernel_rfl) (by kernel_rfl)
      (OpenSpec.preRow_of_cond 8 hx (by kernel_rfl) (fun k hk => by cases hk) (by kernel_rfl) (laid_met os))) ?_
  intro W base args ds gs before hval0 hW _ hcond hsz hL hsh _
  have hval : ∀ (j : Nat) t v, Try.f6.params[j]? = some t → args[j]? = some v → Value.okWide Try.prog W .any base t v := hval0
  have hW' := hW
  obtain ⟨p, q, hA0, hV, rfl, hfz, hnd⟩ := hW
  have hA : DataW.TrodAll enc Try.prog W 0 (fun _ => true) true Try.f6.params.toList args.toList ds p := hA0
  rw [Try.params6] at hA hval
  obtain ⟨v0, vs0, d0, ds0, p0, q0, hargs, rfl, rfl, h0, r0⟩ := trodAll_cons hA
  obtain ⟨v1, vs1, d1, ds1, p1, q1, rfl, rfl, rfl, h1, r1⟩ := trodAll_cons r0
  obtain ⟨rfl, rfl, rfl⟩ := trodAll_nil r1
  obtain rfl : args = #[v0, v1] := by cases args; simp_all
  obtain ⟨rfl, rfl⟩ := trodVars_none hV
  obtain ⟨a0, s0, len0, cap0, rfl, w0⟩ := open_replay Try.underlying28 rfl rfl rfl rfl Try.underlying25 rfl rfl Try.underlying23 Try.underlying22 Try.underlying3 Try.underlying26 Try.underlying46 rfl rfl rfl rfl rfl rfl Try.underlying44 cellsRl cellsK (by kernel_rfl) cellsG cellsR cellsI cellsU cellsC (hval 0 28 v0 rfl rfl) h0
  have k0 := h0
  have lt0 : ∀ x ∈ p0, x.block < W.heap.size := by obtain ⟨m, hm⟩ := k0; exact DataW.trod_lt m _ _ _ hm
  obtain ⟨a1, rfl, w1⟩ := open_step_at Try.underlying46 rfl rfl rfl rfl rfl rfl Try.underlying44 Try.underlying3 cellsU cellsC cellsI (hval 1 46 v1 rfl rfl) h1
  have k1 := h1
  have lt1 : ∀ x ∈ p1, x.block < W.heap.size := by obtain ⟨m, hm⟩ := k1; exact DataW.trod_lt m _ _ _ hm
  clear hA0 hval0
  have hwalk : Calls Try.prog 6 #[.agg (rpl a0 (.slice s0 len0 cap0)), .agg (mk 4 a1)] W fun e w' => e = .returned (.bool true) ∧ Below W.heap.size W w' := walk W hsh a0 s0 len0 cap0 w0 a1 w1
  refine hwalk.mono fun e W' ⟨he, bel⟩ => ?_
  subst he
  exact ⟨_, rfl, _, _, _, [], _, [], hW', trodAll_mk1 (shut_bool Try.underlying4 _), (trodAll_cons_mk (Below.trod laidOut (by kernel_rfl) (of_decide_eq_true (by kernel_rfl)) k0 bel lt0) (trodAll_cons_mk (Below.trod laidOut (by kernel_rfl) (of_decide_eq_true (by kernel_rfl)) k1 bel lt1) trodAll_mk0)), rfl, bel.frame _, fun h => by cases h⟩
set_option maxHeartbeats 8000000 in
theorem closed : joinedFacts Try.pinned.checked.prog 6 Try.f6 ((OpenSpec.ofChange Rows.fnExactAddStepSpec)).bare Rows.fnExactAddStepRow = true := by
  unfold joinedFacts
  repeat' with_reducible refine and_mk ?_ ?_
  case refine_1.refine_1.refine_1.refine_1.refine_1.refine_1.refine_2 => exact enters
  case refine_1.refine_1.refine_1.refine_1.refine_1.refine_2 => exact (show (Rows.fnExactAddStepRow.lifted == Try.prog.liftsFinal) = true by rw [final_no]; rfl)
  case refine_1.refine_1.refine_1.refine_1.refine_2 => exact (show (Try.prog.make == some Rows.fnExactAddStepRow.make) = true by rw [make_cut]; rfl)
  case refine_1.refine_1.refine_1.refine_1.refine_1.refine_1.refine_1.refine_1.refine_1.refine_1.refine_1.refine_1.refine_1.refine_1.refine_1.refine_1.refine_1.refine_1.refine_1.refine_1.refine_1.refine_1.refine_1.refine_1.refine_1.refine_1.refine_1.refine_1.refine_1.refine_1.refine_2 => exact laidOut
  case refine_1.refine_1.refine_1.refine_1.refine_1.refine_1.refine_1.refine_1.refine_1.refine_1.refine_1.refine_1.refine_1.refine_1.refine_1.refine_1.refine_1.refine_1.refine_1.refine_1.refine_1.refine_1.refine_1.refine_1.refine_1.refine_1.refine_1.refine_1.refine_1.refine_2 => exact maps_rowed
  case refine_1.refine_1.refine_1.refine_1.refine_1.refine_1.refine_1.refine_2 => exact stops_heard
  all_goals (as_aux_lemma => kernel_rfl)
theorem proved : Rows.FnExactAddStepSaid :=
  OpenClaim.holds_of_cond 6 Try.f6 rfl rfl rfl rfl rfl rfl rfl ⟨rfl, rfl, rfl, rfl, rfl⟩ rfl rfl rfl rfl rfl (by kernel_rfl) Try.func6 closed
    (of_decide_eq_true (by kernel_rfl)) (by unfold Func.isWrapper; first | (rw [if_pos (by decide +kernel)]; kernel_rfl) | (rw [if_neg (by decide +kernel)]; exact ⟨rfl, rfl⟩))
    (fun os started H enc _ F => by rw [OpenClaim.pre_eq_preRow]; exact lifted os started H enc F)
#print axioms proved
end Go.Proofs.Ytekdodlkimgbhaa.fnExactAddStep
