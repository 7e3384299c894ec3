/-
  Proved: for every board, order, seed and number, the law FnExactPlaySeed returns true, and both read as they did. No condition.
-/
import Derived.Test.YtfjpdopljmilpaaPlayOwn
import Derived.Test.YtfjpdopljmilpaaHeldLaw
import Derived.Deep.Cut
import Derived.Test.YtfjpdopljmilpaaRepOwn
import Derived.Test.YtfjpdopljmilpaaBaseA
import Derived.Test.YtfjpdopljmilpaaClosed
import Derived.Test.YtfjpdopljmilpaaCommonTop
namespace Go.Proofs.Ytfjpdopljmilpaa.fnExactPlaySeed
open Go.ChangeShapes Go.WideShapes Go.ChangeAt Go.RowKit Plain
attribute [local go_sem] store_new store_newR
set_option linter.unusedVariables false
set_option linter.unusedSimpArgs false
theorem below3 {w a b : World} (h : Below w.heap.size w a) (k : Below a.heap.size a b) : Below w.heap.size w b := h.trans (k.mono h.size)
theorem rp_grown {w w' : World} {b : Nat} {f : Nat → Int} {v : Value} {t : TypeId} {r : Option Nat} (h : Rp w b f v t) (hg : w.grownBy w' r) (hne : r ≠ some b) : Rp w' b f v t := by
  obtain ⟨_, _, _, _, hk⟩ := hg
  exact (hk b h.lt (fun e => hne e.symm)).trans h
theorem blk_grown {w w' : World} {b n : Nat} {f : Nat → Int} {t : TypeId} {r : Option Nat} (h : Blk w b n f t) (hg : w.grownBy w' r) (hne : r ≠ some b) : Blk w' b n f t := by
  obtain ⟨_, _, _, _, hk⟩ := hg
  exact (hk b h.lt (fun e => hne e.symm)).trans h
theorem own_grown {w w' : World} {base m : Nat} {v : Value} {H : Nat → Int} {r : Option Nat} (h : OwnT w base v m H) (hg : w.grownBy w' r) (hne : ∀ k, r = some k → v.ownBlock ≠ some k) : OwnT w' base v m H := by
  cases hr : r with
  | none =>
    subst hr
    by_cases q : v.ownBlock = Option.none
    · exact World.ownsRow.kept h hg (Or.inl q)
    · exact World.ownsRow.kept h hg (Or.inr q)
  | some k => subst hr; exact World.ownsRow.kept h hg (Or.inr (hne k rfl))
theorem execR4 {o : Oper} {ev : Operand → Value} {w : World} {b : Nat} {f : Nat → Int} {t : TypeId} {x : Operand} (hg : Blk w b 4 f t) (ho : o.op = .load 22 x) (hx : ev x = .pointer (some ⟨b, 0, none⟩)) :
    (execOp ev o).run Try.prog w = .ok (.value (.agg (mk 4 f))) w := exec_load_blk _ x ho hx hg Try.underlying22 rfl sizeR
set_option maxHeartbeats 8000000 in
set_option maxRecDepth 20000 in
theorem walk (a0 : Nat → Int) (_ : ∀ i, i < 16 → (Lit.int .i64 (a0 i)).wf = true) (a1 : Nat → Int) (_ : ∀ i, i < 4 → (Lit.int .i64 (a1 i)).wf = true) (a2 : Int) (_ : (Lit.int .i64 a2).wf = true) (a3 : Int) (_ : (Lit.int .i64 a3).wf = true) (w : World) (_ : w.ShapedOpen Try.prog) :
    Calls Try.prog 3 #[.agg (mk 16 a0), .agg (mk 4 a1), .int .i64 a2, .int .i64 a3] w fun e w' => e = .returned (.bool true) ∧ Below w.heap.size w w' := by
  have K0 := (Blk.new w 16 a0 25).alloc (.cells (mk 4 a1) 22)
  have T0 := Blk.new (w.alloc (.cells (mk 16 a0) 25)) 4 a1 22
  have HB : Hid (Below w.heap.size w ((w.alloc (.cells (mk 16 a0) 25)).alloc (.cells (mk 4 a1) 22))) := ((Below.refl w.heap.size w).alloc (Nat.le_refl _) _).alloc (by simp) _
  simp only [World.size_alloc] at T0
  have z16 := zero16
  have z17 := zeroRp
  have z4 := zero4
  have HSP : ∀ W, Calls Try.prog 14 #[.agg (mk 16 a0), .agg (mk 4 a1), .int .i64 a2, .int .i64 a3] W fun e w' => ∃ a c, e = .returned (.tuple #[.agg (rpl (psB a0 a1 a2 a3) (.slice a (psL a0 a1 a2 a3).length c)), .int .i64 (psS a0 a1 a2 a3), .bool (psO a0 a1 a2 a3)]) ∧ OwnT w' W.heap.size (.slice a (psL a0 a1 a2 a3).length c) (psL a0 a1 a2 a3).length (psH a0 a1 a2 a3) ∧ Below W.heap.size W w' := fun W => specPlayT_any a0 a1 a2 a3 W
  have HIM : ∀ W, Calls Try.prog 17 #[.agg (mk 16 a0), .agg (mk 4 a1), .int .i64 a2, .int .i64 a3] W fun e w' => ∃ a c, e = .returned (.tuple #[.agg (rpl (psB a0 a1 a2 a3) (.slice a (psL a0 a1 a2 a3).length c)), .int .i64 (psS a0 a1 a2 a3), .bool (psO a0 a1 a2 a3)]) ∧ OwnT w' W.heap.size (.slice a (psL a0 a1 a2 a3).length c) (psL a0 a1 a2 a3).length (psH a0 a1 a2 a3) ∧ Below W.heap.size W w' := fun W => implPlayT_any a0 a1 a2 a3 W
  have hm : (psL a0 a1 a2 a3).length ≤ 1048576 := by have := (psL_four a0 a1 a2 a3).2; omega
  generalize (psL a0 a1 a2 a3).length = m at *
  generalize psB a0 a1 a2 a3 = F at *
  generalize psS a0 a1 a2 a3 = S at *
  generalize psO a0 a1 a2 a3 = O at *
  generalize psH a0 a1 a2 a3 = H at *
  have HSP := Lib.hid HSP
  have HIM := Lib.hid HIM
  go_enter Try.func3, Try.ntmps3
  go_upto_region 1 with fail
  generalize ((w.alloc (.cells (mk 16 a0) 25)).alloc (.cells (mk 4 a1) 22)) = w1 at *
  go_cut [9, 10, 11] from 20 (fun z1 z2 z3 wc => ∃ (b6 s5 : Nat) (a5 : Option Addr) (c5 : Nat), z1 = .pointer (some ⟨b6, 0, none⟩) ∧ z2 = .int .i64 S ∧ z3 = .bool O ∧ Blk wc w.heap.size 16 a0 25 ∧ Blk wc (w.heap.size + 1) 4 a1 22 ∧ Rp wc b6 F (.slice a5 m c5) 29 ∧ OwnT wc s5 (.slice a5 m c5) m H ∧ (w.heap.size + 1 < s5 ∧ s5 ≤ b6) ∧ (∀ k, (Value.slice a5 m c5).ownBlock = some k → k = b6 → False) ∧ Below w.heap.size w wc)
  case first =>
    generalize hs5 : w1.heap.size = s5
    have HS5 : Hid (s5 ≤ w1.heap.size) := by show _ ≤ _; omega
    have HSZ0 : Hid (s5 ≤ w1.heap.size) := HS5
    have HLT : Hid (w.heap.size + 1 < s5) := by have := T0.lt; show _ < _; omega
    clear hs5
    refine wp_region_held_drew (S := fun W => Blk W w.heap.size 16 a0 25 ∧ Blk W (w.heap.size + 1) 4 a1 22) (by kernel_rfl) (⟨K0.drew, T0.drew⟩) (fun hHeld => ?_)
    have K0 : Blk w1.drew w.heap.size 16 a0 25 := K0.drew
    have T0 : Blk w1.drew (w.heap.size + 1) 4 a1 22 := T0.drew
    have HB : Hid (Below w.heap.size w w1.drew) := HB.out.drew
    have HBX0 : Hid (Below w1.heap.size w1 w1.drew) := (Below.refl _ w1).drew
    generalize w1.drew = x0 at *
    have HBX : Hid (Below w1.heap.size w1 x0) := HBX0
    refine wpAnyH_take (i := 0) (oi := { dst := some 21, op := _, type := _, pos := _, after := _, guard := _ }) (v := .agg (mk 16 a0)) rfl (by kernel_rfl) (by kernel_rfl) (by kernel_rfl) (fun _ _ _ h => h) (Or.inl ⟨by rfl, fun _ q => execK q.1 rfl rfl⟩) (by assumption) ?_
    try simp only [Act.put, List.setIfInBounds_toArray, List.set_cons_zero, List.set_cons_succ]
    refine wpAnyH_take (i := 2) (oi := { dst := some 23, op := _, type := _, pos := _, after := _, guard := _ }) (v := .agg (mk 4 a1)) rfl (by kernel_rfl) (by kernel_rfl) (by kernel_rfl) (fun _ _ _ h => h) (Or.inl ⟨by rfl, fun _ q => execR4 q.2 rfl rfl⟩) (by assumption) ?_
    try simp only [Act.put, List.setIfInBounds_toArray, List.set_cons_zero, List.set_cons_succ]
    refine wpAnyH_take (i := 4) (oi := { dst := some 25, op := _, type := _, pos := _, after := _, guard := _ }) (v := .int .i64 a2) rfl (by kernel_rfl) (by kernel_rfl) (by kernel_rfl) (fun _ _ _ h => h) (Or.inl ⟨by rfl, by intro w hSw; clear hSw; go_simp; (try with_reducible rfl)⟩) (by assumption) ?_
    try simp only [Act.put, List.setIfInBounds_toArray, List.set_cons_zero, List.set_cons_succ]
    refine wpAnyH_take (i := 5) (oi := { dst := some 26, op := _, type := _, pos := _, after := _, guard := _ }) (v := .int .i64 a3) rfl (by kernel_rfl) (by kernel_rfl) (by kernel_rfl) (fun _ _ _ h => h) (Or.inl ⟨by rfl, by intro w hSw; clear hSw; go_simp; (try with_reducible rfl)⟩) (by assumption) ?_
    try simp only [Act.put, List.setIfInBounds_toArray, List.set_cons_zero, List.set_cons_succ]
    refine wpAnyH_ready (rs := [1, 11]) (by kernel_rfl) (by simp) ?_
    refine AllReadyH.cons rfl (fun K hK => ?_) ?_
    · go_simp
      refine (toBoard_any a0 _).mono ?_
      rintro e x1 ⟨rfl, hb⟩
      have K0 := K0.below hb K0.lt
      have T0 := T0.below hb T0.lt
      have HB : Hid (Below w.heap.size w x1) := below3 HB.out hb
      have HBX : Hid (Below w1.heap.size w1 x1) := below3 HBX.out hb
      clear hb hHeld
      go_wp2_with fail
      refine hK.out _ _ ⟨K0, T0⟩ (fun hHeld => ?_)
      clear hK K
      try simp only [Act.put, List.setIfInBounds_toArray, List.set_cons_zero, List.set_cons_succ]
      refine wpAnyH_ready (rs := [3, 11]) (by kernel_rfl) (by simp) ?_
      refine AllReadyH.cons rfl (fun K hK => ?_) ?_
      · go_simp
        refine (toIntA4_any a1 _).mono ?_
        rintro e x2 ⟨rfl, hb⟩
        have K0 := K0.below hb K0.lt
        have T0 := T0.below hb T0.lt
        have HB : Hid (Below w.heap.size w x2) := below3 HB.out hb
        have HBX : Hid (Below w1.heap.size w1 x2) := below3 HBX.out hb
        clear hb hHeld
        go_wp2_with fail
        refine hK.out _ _ ⟨K0, T0⟩ (fun hHeld => ?_)
        clear hK K
        try simp only [Act.put, List.setIfInBounds_toArray, List.set_cons_zero, List.set_cons_succ]
        refine wpAnyH_ready (rs := [6, 11]) (by kernel_rfl) (by simp) ?_
        refine AllReadyH.cons rfl (fun K hK => ?_) ?_
        · go_simp
          refine (HSP.out _).mono ?_
          rintro e x3 ⟨a5, c5, rfl, ho, hb⟩
          have K0 := K0.below hb K0.lt
          have T0 := T0.below hb T0.lt
          have HB : Hid (Below w.heap.size w x3) := below3 HB.out hb
          have O5 : OwnT x3 s5 (.slice a5 m c5) m H := ho.wide (Nat.le_trans HS5.out HBX.out.size)
          have HBX : Hid (Below w1.heap.size w1 x3) := below3 HBX.out hb
          clear hb hHeld ho
          go_wp2_with fail
          refine hK.out _ _ ⟨K0, T0⟩ (fun hHeld => ?_)
          clear hK K
          try simp only [Act.put, List.setIfInBounds_toArray, List.set_cons_zero, List.set_cons_succ]
          refine wpAnyH_take (i := 7) (oi := { dst := some 20, op := _, type := _, pos := _, after := _, guard := _ }) (v := .tuple #[.agg (rpl F (.slice a5 m c5)), .int .i64 S, .bool O]) rfl (by kernel_rfl) (by kernel_rfl) (by kernel_rfl) (fun _ _ _ h => h) (Or.inl ⟨by rfl, by intro w hSw; clear hSw; go_simp; (try with_reducible rfl)⟩) (by assumption) ?_
          try simp only [Act.put, List.setIfInBounds_toArray, List.set_cons_zero, List.set_cons_succ]
          refine wpAnyH_take (i := 8) (oi := { dst := some 28, op := _, type := _, pos := _, after := _, guard := _ }) (v := .agg (rpl F (.slice a5 m c5))) rfl (by kernel_rfl) (by kernel_rfl) (by kernel_rfl) (fun _ _ _ h => h) (Or.inl ⟨by rfl, by intro w hSw; clear hSw; go_simp; (try with_reducible rfl)⟩) (by assumption) ?_
          try simp only [Act.put, List.setIfInBounds_toArray, List.set_cons_zero, List.set_cons_succ]
          refine wpAnyH_take (i := 9) (oi := { dst := some 29, op := _, type := _, pos := _, after := _, guard := _ }) (v := .int .i64 S) rfl (by kernel_rfl) (by kernel_rfl) (by kernel_rfl) (fun _ _ _ h => h) (Or.inl ⟨by rfl, by intro w hSw; clear hSw; go_simp; (try with_reducible rfl)⟩) (by assumption) ?_
          try simp only [Act.put, List.setIfInBounds_toArray, List.set_cons_zero, List.set_cons_succ]
          refine wpAnyH_take (i := 10) (oi := { dst := some 30, op := _, type := _, pos := _, after := _, guard := _ }) (v := .bool O) rfl (by kernel_rfl) (by kernel_rfl) (by kernel_rfl) (fun _ _ _ h => h) (Or.inl ⟨by rfl, by intro w hSw; clear hSw; go_simp; (try with_reducible rfl)⟩) (by assumption) ?_
          try simp only [Act.put, List.setIfInBounds_toArray, List.set_cons_zero, List.set_cons_succ]
          refine wpAnyH_ready (rs := [11]) (by kernel_rfl) (by simp) ?_
          refine AllReadyH.cons rfl (fun K hK => ?_) AllReadyH.nil
          rw [if_pos (by rfl)]
          refine wp_allocRp rfl ?_
          have KN := Rp.new x3 (fun _ => 0) (.slice none 0 0) 29
          have HNB : Hid (s5 ≤ x3.heap.size) := Nat.le_trans HSZ0.out HBX.out.size
          have HNE : Hid (∀ k, (Value.slice a5 m c5).ownBlock = some k → k = x3.heap.size → False) := fun k e q => by have := (O5.lt k e).2; omega
          have K0 := K0.alloc (.cells (rpl (fun _ => 0) (.slice none 0 0)) 29)
          have T0 := T0.alloc (.cells (rpl (fun _ => 0) (.slice none 0 0)) 29)
          have O5 := O5.alloc (.cells (rpl (fun _ => 0) (.slice none 0 0)) 29)
          have HB : Hid (Below w.heap.size w (x3.alloc (.cells (rpl (fun _ => 0) (.slice none 0 0)) 29))) := HB.out.alloc HB.out.size _
          have HBX : Hid (Below w1.heap.size w1 (x3.alloc (.cells (rpl (fun _ => 0) (.slice none 0 0)) 29))) := HBX.out.alloc HBX.out.size _
          clear hHeld
          generalize x3.alloc (.cells (rpl (fun _ => 0) (.slice none 0 0)) 29) = x4 at *
          generalize x3.heap.size = bn at *
          refine hK.out _ _ ⟨K0, T0⟩ (fun hHeld => ?_)
          clear hK K
          try simp only [Act.put, List.setIfInBounds_toArray, List.set_cons_zero, List.set_cons_succ]
          refine wpAnyH_ready (rs := [12]) (by kernel_rfl) (by simp) ?_
          refine AllReadyH.cons rfl (fun K hK => ?_) AllReadyH.nil
          have st1 := run_store_rp (g := F) (a := a5) (n := m) (c := c5) KN
          have ms1 : (rpl F (.slice a5 m c5)).size = 17 := rpl_size _ _
          go_simp
          clear st1 ms1
          have hg8 := grown_rp KN (rpl F (.slice a5 m c5))
          have O5 : OwnT (x4.setRow bn (rpl F (.slice a5 m c5))) s5 (.slice a5 m c5) m H := O5.kept hg8 (fun q => HNE.out _ q rfl)
          have K0 := K0.rowOther bn (rpl F (.slice a5 m c5)) (by have := HNB.out; have := HLT.out; omega)
          have T0 := T0.rowOther bn (rpl F (.slice a5 m c5)) (by have := HNB.out; have := HLT.out; omega)
          have HB : Hid (Below w.heap.size w (x4.setRow bn (rpl F (.slice a5 m c5)))) := below_setRow HB.out (by have := HNB.out; have := HLT.out; omega) _
          have KN := KN.row F (.slice a5 m c5)
          clear hHeld hg8
          generalize x4.setRow bn (rpl F (.slice a5 m c5)) = x5 at *
          refine hK.out _ _ ⟨K0, T0⟩ (fun hHeld => ?_)
          clear hK K
          try simp only [Act.put, List.setIfInBounds_toArray, List.set_cons_zero, List.set_cons_succ]
          refine wpAnyH_take (i := 13) (oi := { dst := some 10, op := _, type := _, pos := _, after := _, guard := _ }) (v := .int .i64 S) rfl (by kernel_rfl) (by kernel_rfl) (by kernel_rfl) (fun _ _ _ h => h) (Or.inl ⟨by rfl, by intro w hSw; clear hSw; go_simp; (try with_reducible rfl)⟩) (by assumption) ?_
          try simp only [Act.put, List.setIfInBounds_toArray, List.set_cons_zero, List.set_cons_succ]
          refine wpAnyH_take (i := 14) (oi := { dst := some 11, op := _, type := _, pos := _, after := _, guard := _ }) (v := .bool O) rfl (by kernel_rfl) (by kernel_rfl) (by kernel_rfl) (fun _ _ _ h => h) (Or.inl ⟨by rfl, by intro w hSw; clear hSw; go_simp; (try with_reducible rfl)⟩) (by assumption) ?_
          try simp only [Act.put, List.setIfInBounds_toArray, List.set_cons_zero, List.set_cons_succ]
          refine wpAnyH_done (by kernel_rfl) ?_ _
          clear hHeld
          go_wp2_with fail
          go_meet
          case rel => exact ⟨bn, s5, a5, c5, rfl, rfl, rfl, K0, T0, KN, O5, ⟨HLT.out, by have := HNB.out; have := HLT.out; omega⟩, fun k e q => HNE.out k e q, HB.out⟩
        refine AllReadyH.cons rfl (fun K hK => ?_) AllReadyH.nil
        rw [if_pos (by rfl)]
        refine wp_allocRp rfl ?_
        have KN := Rp.new x2 (fun _ => 0) (.slice none 0 0) 29
        have HNB : Hid (s5 ≤ x2.heap.size) := Nat.le_trans HSZ0.out HBX.out.size
        have K0 := K0.alloc (.cells (rpl (fun _ => 0) (.slice none 0 0)) 29)
        have T0 := T0.alloc (.cells (rpl (fun _ => 0) (.slice none 0 0)) 29)
        have HB : Hid (Below w.heap.size w (x2.alloc (.cells (rpl (fun _ => 0) (.slice none 0 0)) 29))) := HB.out.alloc HB.out.size _
        have HBX : Hid (Below w1.heap.size w1 (x2.alloc (.cells (rpl (fun _ => 0) (.slice none 0 0)) 29))) := HBX.out.alloc HBX.out.size _
        clear hHeld
        generalize x2.alloc (.cells (rpl (fun _ => 0) (.slice none 0 0)) 29) = x3 at *
        generalize x2.heap.size = bn at *
        refine hK.out _ _ ⟨K0, T0⟩ (fun hHeld => ?_)
        clear hK K
        try simp only [Act.put, List.setIfInBounds_toArray, List.set_cons_zero, List.set_cons_succ]
        refine wpAnyH_ready (rs := [6]) (by kernel_rfl) (by simp) ?_
        refine AllReadyH.cons rfl (fun K hK => ?_) AllReadyH.nil
        go_simp
        refine (HSP.out _).mono ?_
        rintro e x4 ⟨a5, c5, rfl, ho, hb⟩
        have HNE : Hid (∀ k, (Value.slice a5 m c5).ownBlock = some k → k = bn → False) := fun k e q => by have := (ho.lt k e).1; have := KN.lt; omega
        have K0 := K0.below hb K0.lt
        have T0 := T0.below hb T0.lt
        have KN := KN.below hb KN.lt
        have HB : Hid (Below w.heap.size w x4) := below3 HB.out hb
        have O5 : OwnT x4 s5 (.slice a5 m c5) m H := ho.wide (Nat.le_trans HS5.out HBX.out.size)
        have HBX : Hid (Below w1.heap.size w1 x4) := below3 HBX.out hb
        clear hb hHeld ho
        go_wp2_with fail
        refine hK.out _ _ ⟨K0, T0⟩ (fun hHeld => ?_)
        clear hK K
        try simp only [Act.put, List.setIfInBounds_toArray, List.set_cons_zero, List.set_cons_succ]
        refine wpAnyH_take (i := 7) (oi := { dst := some 20, op := _, type := _, pos := _, after := _, guard := _ }) (v := .tuple #[.agg (rpl F (.slice a5 m c5)), .int .i64 S, .bool O]) rfl (by kernel_rfl) (by kernel_rfl) (by kernel_rfl) (fun _ _ _ h => h) (Or.inl ⟨by rfl, by intro w hSw; clear hSw; go_simp; (try with_reducible rfl)⟩) (by assumption) ?_
        try simp only [Act.put, List.setIfInBounds_toArray, List.set_cons_zero, List.set_cons_succ]
        refine wpAnyH_take (i := 8) (oi := { dst := some 28, op := _, type := _, pos := _, after := _, guard := _ }) (v := .agg (rpl F (.slice a5 m c5))) rfl (by kernel_rfl) (by kernel_rfl) (by kernel_rfl) (fun _ _ _ h => h) (Or.inl ⟨by rfl, by intro w hSw; clear hSw; go_simp; (try with_reducible rfl)⟩) (by assumption) ?_
        try simp only [Act.put, List.setIfInBounds_toArray, List.set_cons_zero, List.set_cons_succ]
        refine wpAnyH_take (i := 9) (oi := { dst := some 29, op := _, type := _, pos := _, after := _, guard := _ }) (v := .int .i64 S) rfl (by kernel_rfl) (by kernel_rfl) (by kernel_rfl) (fun _ _ _ h => h) (Or.inl ⟨by rfl, by intro w hSw; clear hSw; go_simp; (try with_reducible rfl)⟩) (by assumption) ?_
        try simp only [Act.put, List.setIfInBounds_toArray, List.set_cons_zero, List.set_cons_succ]
        refine wpAnyH_take (i := 10) (oi := { dst := some 30, op := _, type := _, pos := _, after := _, guard := _ }) (v := .bool O) rfl (by kernel_rfl) (by kernel_rfl) (by kernel_rfl) (fun _ _ _ h => h) (Or.inl ⟨by rfl, by intro w hSw; clear hSw; go_simp; (try with_reducible rfl)⟩) (by assumption) ?_
        try simp only [Act.put, List.setIfInBounds_toArray, List.set_cons_zero, List.set_cons_succ]
        refine wpAnyH_ready (rs := [12]) (by kernel_rfl) (by simp) ?_
        refine AllReadyH.cons rfl (fun K hK => ?_) AllReadyH.nil
        have st1 := run_store_rp (g := F) (a := a5) (n := m) (c := c5) KN
        have ms1 : (rpl F (.slice a5 m c5)).size = 17 := rpl_size _ _
        go_simp
        clear st1 ms1
        have hg8 := grown_rp KN (rpl F (.slice a5 m c5))
        have O5 : OwnT (x4.setRow bn (rpl F (.slice a5 m c5))) s5 (.slice a5 m c5) m H := O5.kept hg8 (fun q => HNE.out _ q rfl)
        have K0 := K0.rowOther bn (rpl F (.slice a5 m c5)) (by have := HNB.out; have := HLT.out; omega)
        have T0 := T0.rowOther bn (rpl F (.slice a5 m c5)) (by have := HNB.out; have := HLT.out; omega)
        have HB : Hid (Below w.heap.size w (x4.setRow bn (rpl F (.slice a5 m c5)))) := below_setRow HB.out (by have := HNB.out; have := HLT.out; omega) _
        have KN := KN.row F (.slice a5 m c5)
        clear hHeld hg8
        generalize x4.setRow bn (rpl F (.slice a5 m c5)) = x5 at *
        refine hK.out _ _ ⟨K0, T0⟩ (fun hHeld => ?_)
        clear hK K
        try simp only [Act.put, List.setIfInBounds_toArray, List.set_cons_zero, List.set_cons_succ]
        refine wpAnyH_take (i := 13) (oi := { dst := some 10, op := _, type := _, pos := _, after := _, guard := _ }) (v := .int .i64 S) rfl (by kernel_rfl) (by kernel_rfl) (by kernel_rfl) (fun _ _ _ h => h) (Or.inl ⟨by rfl, by intro w hSw; clear hSw; go_simp; (try with_reducible rfl)⟩) (by assumption) ?_
        try simp only [Act.put, List.setIfInBounds_toArray, List.set_cons_zero, List.set_cons_succ]
        refine wpAnyH_take (i := 14) (oi := { dst := some 11, op := _, type := _, pos := _, after := _, guard := _ }) (v := .bool O) rfl (by kernel_rfl) (by kernel_rfl) (by kernel_rfl) (fun _ _ _ h => h) (Or.inl ⟨by rfl, by intro w hSw; clear hSw; go_simp; (try with_reducible rfl)⟩) (by assumption) ?_
        try simp only [Act.put, List.setIfInBounds_toArray, List.set_cons_zero, List.set_cons_succ]
        refine wpAnyH_done (by kernel_rfl) ?_ _
        clear hHeld
        go_wp2_with fail
        go_meet
        case rel => exact ⟨bn, s5, a5, c5, rfl, rfl, rfl, K0, T0, KN, O5, ⟨HLT.out, by have := HNB.out; have := HLT.out; omega⟩, fun k e q => HNE.out k e q, HB.out⟩
      refine AllReadyH.cons rfl (fun K hK => ?_) AllReadyH.nil
      rw [if_pos (by rfl)]
      refine wp_allocRp rfl ?_
      have KN := Rp.new x1 (fun _ => 0) (.slice none 0 0) 29
      have HNB : Hid (s5 ≤ x1.heap.size) := Nat.le_trans HSZ0.out HBX.out.size
      have K0 := K0.alloc (.cells (rpl (fun _ => 0) (.slice none 0 0)) 29)
      have T0 := T0.alloc (.cells (rpl (fun _ => 0) (.slice none 0 0)) 29)
      have HB : Hid (Below w.heap.size w (x1.alloc (.cells (rpl (fun _ => 0) (.slice none 0 0)) 29))) := HB.out.alloc HB.out.size _
      have HBX : Hid (Below w1.heap.size w1 (x1.alloc (.cells (rpl (fun _ => 0) (.slice none 0 0)) 29))) := HBX.out.alloc HBX.out.size _
      clear hHeld
      generalize x1.alloc (.cells (rpl (fun _ => 0) (.slice none 0 0)) 29) = x2 at *
      generalize x1.heap.size = bn at *
      refine hK.out _ _ ⟨K0, T0⟩ (fun hHeld => ?_)
      clear hK K
      try simp only [Act.put, List.setIfInBounds_toArray, List.set_cons_zero, List.set_cons_succ]
      refine wpAnyH_ready (rs := [3]) (by kernel_rfl) (by simp) ?_
      refine AllReadyH.cons rfl (fun K hK => ?_) AllReadyH.nil
      go_simp
      refine (toIntA4_any a1 _).mono ?_
      rintro e x3 ⟨rfl, hb⟩
      have K0 := K0.below hb K0.lt
      have T0 := T0.below hb T0.lt
      have KN := KN.below hb KN.lt
      have HB : Hid (Below w.heap.size w x3) := below3 HB.out hb
      have HBX : Hid (Below w1.heap.size w1 x3) := below3 HBX.out hb
      clear hb hHeld
      go_wp2_with fail
      refine hK.out _ _ ⟨K0, T0⟩ (fun hHeld => ?_)
      clear hK K
      try simp only [Act.put, List.setIfInBounds_toArray, List.set_cons_zero, List.set_cons_succ]
      refine wpAnyH_ready (rs := [6]) (by kernel_rfl) (by simp) ?_
      refine AllReadyH.cons rfl (fun K hK => ?_) AllReadyH.nil
      go_simp
      refine (HSP.out _).mono ?_
      rintro e x4 ⟨a5, c5, rfl, ho, hb⟩
      have HNE : Hid (∀ k, (Value.slice a5 m c5).ownBlock = some k → k = bn → False) := fun k e q => by have := (ho.lt k e).1; have := KN.lt; omega
      have K0 := K0.below hb K0.lt
      have T0 := T0.below hb T0.lt
      have KN := KN.below hb KN.lt
      have HB : Hid (Below w.heap.size w x4) := below3 HB.out hb
      have O5 : OwnT x4 s5 (.slice a5 m c5) m H := ho.wide (Nat.le_trans HS5.out HBX.out.size)
      have HBX : Hid (Below w1.heap.size w1 x4) := below3 HBX.out hb
      clear hb hHeld ho
      go_wp2_with fail
      refine hK.out _ _ ⟨K0, T0⟩ (fun hHeld => ?_)
      clear hK K
      try simp only [Act.put, List.setIfInBounds_toArray, List.set_cons_zero, List.set_cons_succ]
      refine wpAnyH_take (i := 7) (oi := { dst := some 20, op := _, type := _, pos := _, after := _, guard := _ }) (v := .tuple #[.agg (rpl F (.slice a5 m c5)), .int .i64 S, .bool O]) rfl (by kernel_rfl) (by kernel_rfl) (by kernel_rfl) (fun _ _ _ h => h) (Or.inl ⟨by rfl, by intro w hSw; clear hSw; go_simp; (try with_reducible rfl)⟩) (by assumption) ?_
      try simp only [Act.put, List.setIfInBounds_toArray, List.set_cons_zero, List.set_cons_succ]
      refine wpAnyH_take (i := 8) (oi := { dst := some 28, op := _, type := _, pos := _, after := _, guard := _ }) (v := .agg (rpl F (.slice a5 m c5))) rfl (by kernel_rfl) (by kernel_rfl) (by kernel_rfl) (fun _ _ _ h => h) (Or.inl ⟨by rfl, by intro w hSw; clear hSw; go_simp; (try with_reducible rfl)⟩) (by assumption) ?_
      try simp only [Act.put, List.setIfInBounds_toArray, List.set_cons_zero, List.set_cons_succ]
      refine wpAnyH_take (i := 9) (oi := { dst := some 29, op := _, type := _, pos := _, after := _, guard := _ }) (v := .int .i64 S) rfl (by kernel_rfl) (by kernel_rfl) (by kernel_rfl) (fun _ _ _ h => h) (Or.inl ⟨by rfl, by intro w hSw; clear hSw; go_simp; (try with_reducible rfl)⟩) (by assumption) ?_
      try simp only [Act.put, List.setIfInBounds_toArray, List.set_cons_zero, List.set_cons_succ]
      refine wpAnyH_take (i := 10) (oi := { dst := some 30, op := _, type := _, pos := _, after := _, guard := _ }) (v := .bool O) rfl (by kernel_rfl) (by kernel_rfl) (by kernel_rfl) (fun _ _ _ h => h) (Or.inl ⟨by rfl, by intro w hSw; clear hSw; go_simp; (try with_reducible rfl)⟩) (by assumption) ?_
      try simp only [Act.put, List.setIfInBounds_toArray, List.set_cons_zero, List.set_cons_succ]
      refine wpAnyH_ready (rs := [12]) (by kernel_rfl) (by simp) ?_
      refine AllReadyH.cons rfl (fun K hK => ?_) AllReadyH.nil
      have st1 := run_store_rp (g := F) (a := a5) (n := m) (c := c5) KN
      have ms1 : (rpl F (.slice a5 m c5)).size = 17 := rpl_size _ _
      go_simp
      clear st1 ms1
      have hg8 := grown_rp KN (rpl F (.slice a5 m c5))
      have O5 : OwnT (x4.setRow bn (rpl F (.slice a5 m c5))) s5 (.slice a5 m c5) m H := O5.kept hg8 (fun q => HNE.out _ q rfl)
      have K0 := K0.rowOther bn (rpl F (.slice a5 m c5)) (by have := HNB.out; have := HLT.out; omega)
      have T0 := T0.rowOther bn (rpl F (.slice a5 m c5)) (by have := HNB.out; have := HLT.out; omega)
      have HB : Hid (Below w.heap.size w (x4.setRow bn (rpl F (.slice a5 m c5)))) := below_setRow HB.out (by have := HNB.out; have := HLT.out; omega) _
      have KN := KN.row F (.slice a5 m c5)
      clear hHeld hg8
      generalize x4.setRow bn (rpl F (.slice a5 m c5)) = x5 at *
      refine hK.out _ _ ⟨K0, T0⟩ (fun hHeld => ?_)
      clear hK K
      try simp only [Act.put, List.setIfInBounds_toArray, List.set_cons_zero, List.set_cons_succ]
      refine wpAnyH_take (i := 13) (oi := { dst := some 10, op := _, type := _, pos := _, after := _, guard := _ }) (v := .int .i64 S) rfl (by kernel_rfl) (by kernel_rfl) (by kernel_rfl) (fun _ _ _ h => h) (Or.inl ⟨by rfl, by intro w hSw; clear hSw; go_simp; (try with_reducible rfl)⟩) (by assumption) ?_
      try simp only [Act.put, List.setIfInBounds_toArray, List.set_cons_zero, List.set_cons_succ]
      refine wpAnyH_take (i := 14) (oi := { dst := some 11, op := _, type := _, pos := _, after := _, guard := _ }) (v := .bool O) rfl (by kernel_rfl) (by kernel_rfl) (by kernel_rfl) (fun _ _ _ h => h) (Or.inl ⟨by rfl, by intro w hSw; clear hSw; go_simp; (try with_reducible rfl)⟩) (by assumption) ?_
      try simp only [Act.put, List.setIfInBounds_toArray, List.set_cons_zero, List.set_cons_succ]
      refine wpAnyH_done (by kernel_rfl) ?_ _
      clear hHeld
      go_wp2_with fail
      go_meet
      case rel => exact ⟨bn, s5, a5, c5, rfl, rfl, rfl, K0, T0, KN, O5, ⟨HLT.out, by have := HNB.out; have := HLT.out; omega⟩, fun k e q => HNE.out k e q, HB.out⟩
    refine AllReadyH.cons rfl (fun K hK => ?_) AllReadyH.nil
    rw [if_pos (by rfl)]
    refine wp_allocRp rfl ?_
    have KN := Rp.new x0 (fun _ => 0) (.slice none 0 0) 29
    have HNB : Hid (s5 ≤ x0.heap.size) := Nat.le_trans HSZ0.out HBX.out.size
    have K0 := K0.alloc (.cells (rpl (fun _ => 0) (.slice none 0 0)) 29)
    have T0 := T0.alloc (.cells (rpl (fun _ => 0) (.slice none 0 0)) 29)
    have HB : Hid (Below w.heap.size w (x0.alloc (.cells (rpl (fun _ => 0) (.slice none 0 0)) 29))) := HB.out.alloc HB.out.size _
    have HBX : Hid (Below w1.heap.size w1 (x0.alloc (.cells (rpl (fun _ => 0) (.slice none 0 0)) 29))) := HBX.out.alloc HBX.out.size _
    clear hHeld
    generalize x0.alloc (.cells (rpl (fun _ => 0) (.slice none 0 0)) 29) = x1 at *
    generalize x0.heap.size = bn at *
    refine hK.out _ _ ⟨K0, T0⟩ (fun hHeld => ?_)
    clear hK K
    try simp only [Act.put, List.setIfInBounds_toArray, List.set_cons_zero, List.set_cons_succ]
    refine wpAnyH_ready (rs := [1]) (by kernel_rfl) (by simp) ?_
    refine AllReadyH.cons rfl (fun K hK => ?_) AllReadyH.nil
    go_simp
    refine (toBoard_any a0 _).mono ?_
    rintro e x2 ⟨rfl, hb⟩
    have K0 := K0.below hb K0.lt
    have T0 := T0.below hb T0.lt
    have KN := KN.below hb KN.lt
    have HB : Hid (Below w.heap.size w x2) := below3 HB.out hb
    have HBX : Hid (Below w1.heap.size w1 x2) := below3 HBX.out hb
    clear hb hHeld
    go_wp2_with fail
    refine hK.out _ _ ⟨K0, T0⟩ (fun hHeld => ?_)
    clear hK K
    try simp only [Act.put, List.setIfInBounds_toArray, List.set_cons_zero, List.set_cons_succ]
    refine wpAnyH_ready (rs := [3]) (by kernel_rfl) (by simp) ?_
    refine AllReadyH.cons rfl (fun K hK => ?_) AllReadyH.nil
    go_simp
    refine (toIntA4_any a1 _).mono ?_
    rintro e x3 ⟨rfl, hb⟩
    have K0 := K0.below hb K0.lt
    have T0 := T0.below hb T0.lt
    have KN := KN.below hb KN.lt
    have HB : Hid (Below w.heap.size w x3) := below3 HB.out hb
    have HBX : Hid (Below w1.heap.size w1 x3) := below3 HBX.out hb
    clear hb hHeld
    go_wp2_with fail
    refine hK.out _ _ ⟨K0, T0⟩ (fun hHeld => ?_)
    clear hK K
    try simp only [Act.put, List.setIfInBounds_toArray, List.set_cons_zero, List.set_cons_succ]
    refine wpAnyH_ready (rs := [6]) (by kernel_rfl) (by simp) ?_
    refine AllReadyH.cons rfl (fun K hK => ?_) AllReadyH.nil
    go_simp
    refine (HSP.out _).mono ?_
    rintro e x4 ⟨a5, c5, rfl, ho, hb⟩
    have HNE : Hid (∀ k, (Value.slice a5 m c5).ownBlock = some k → k = bn → False) := fun k e q => by have := (ho.lt k e).1; have := KN.lt; omega
    have K0 := K0.below hb K0.lt
    have T0 := T0.below hb T0.lt
    have KN := KN.below hb KN.lt
    have HB : Hid (Below w.heap.size w x4) := below3 HB.out hb
    have O5 : OwnT x4 s5 (.slice a5 m c5) m H := ho.wide (Nat.le_trans HS5.out HBX.out.size)
    have HBX : Hid (Below w1.heap.size w1 x4) := below3 HBX.out hb
    clear hb hHeld ho
    go_wp2_with fail
    refine hK.out _ _ ⟨K0, T0⟩ (fun hHeld => ?_)
    clear hK K
    try simp only [Act.put, List.setIfInBounds_toArray, List.set_cons_zero, List.set_cons_succ]
    refine wpAnyH_take (i := 7) (oi := { dst := some 20, op := _, type := _, pos := _, after := _, guard := _ }) (v := .tuple #[.agg (rpl F (.slice a5 m c5)), .int .i64 S, .bool O]) rfl (by kernel_rfl) (by kernel_rfl) (by kernel_rfl) (fun _ _ _ h => h) (Or.inl ⟨by rfl, by intro w hSw; clear hSw; go_simp; (try with_reducible rfl)⟩) (by assumption) ?_
    try simp only [Act.put, List.setIfInBounds_toArray, List.set_cons_zero, List.set_cons_succ]
    refine wpAnyH_take (i := 8) (oi := { dst := some 28, op := _, type := _, pos := _, after := _, guard := _ }) (v := .agg (rpl F (.slice a5 m c5))) rfl (by kernel_rfl) (by kernel_rfl) (by kernel_rfl) (fun _ _ _ h => h) (Or.inl ⟨by rfl, by intro w hSw; clear hSw; go_simp; (try with_reducible rfl)⟩) (by assumption) ?_
    try simp only [Act.put, List.setIfInBounds_toArray, List.set_cons_zero, List.set_cons_succ]
    refine wpAnyH_take (i := 9) (oi := { dst := some 29, op := _, type := _, pos := _, after := _, guard := _ }) (v := .int .i64 S) rfl (by kernel_rfl) (by kernel_rfl) (by kernel_rfl) (fun _ _ _ h => h) (Or.inl ⟨by rfl, by intro w hSw; clear hSw; go_simp; (try with_reducible rfl)⟩) (by assumption) ?_
    try simp only [Act.put, List.setIfInBounds_toArray, List.set_cons_zero, List.set_cons_succ]
    refine wpAnyH_take (i := 10) (oi := { dst := some 30, op := _, type := _, pos := _, after := _, guard := _ }) (v := .bool O) rfl (by kernel_rfl) (by kernel_rfl) (by kernel_rfl) (fun _ _ _ h => h) (Or.inl ⟨by rfl, by intro w hSw; clear hSw; go_simp; (try with_reducible rfl)⟩) (by assumption) ?_
    try simp only [Act.put, List.setIfInBounds_toArray, List.set_cons_zero, List.set_cons_succ]
    refine wpAnyH_ready (rs := [12]) (by kernel_rfl) (by simp) ?_
    refine AllReadyH.cons rfl (fun K hK => ?_) AllReadyH.nil
    have st1 := run_store_rp (g := F) (a := a5) (n := m) (c := c5) KN
    have ms1 : (rpl F (.slice a5 m c5)).size = 17 := rpl_size _ _
    go_simp
    clear st1 ms1
    have hg8 := grown_rp KN (rpl F (.slice a5 m c5))
    have O5 : OwnT (x4.setRow bn (rpl F (.slice a5 m c5))) s5 (.slice a5 m c5) m H := O5.kept hg8 (fun q => HNE.out _ q rfl)
    have K0 := K0.rowOther bn (rpl F (.slice a5 m c5)) (by have := HNB.out; have := HLT.out; omega)
    have T0 := T0.rowOther bn (rpl F (.slice a5 m c5)) (by have := HNB.out; have := HLT.out; omega)
    have HB : Hid (Below w.heap.size w (x4.setRow bn (rpl F (.slice a5 m c5)))) := below_setRow HB.out (by have := HNB.out; have := HLT.out; omega) _
    have KN := KN.row F (.slice a5 m c5)
    clear hHeld hg8
    generalize x4.setRow bn (rpl F (.slice a5 m c5)) = x5 at *
    refine hK.out _ _ ⟨K0, T0⟩ (fun hHeld => ?_)
    clear hK K
    try simp only [Act.put, List.setIfInBounds_toArray, List.set_cons_zero, List.set_cons_succ]
    refine wpAnyH_take (i := 13) (oi := { dst := some 10, op := _, type := _, pos := _, after := _, guard := _ }) (v := .int .i64 S) rfl (by kernel_rfl) (by kernel_rfl) (by kernel_rfl) (fun _ _ _ h => h) (Or.inl ⟨by rfl, by intro w hSw; clear hSw; go_simp; (try with_reducible rfl)⟩) (by assumption) ?_
    try simp only [Act.put, List.setIfInBounds_toArray, List.set_cons_zero, List.set_cons_succ]
    refine wpAnyH_take (i := 14) (oi := { dst := some 11, op := _, type := _, pos := _, after := _, guard := _ }) (v := .bool O) rfl (by kernel_rfl) (by kernel_rfl) (by kernel_rfl) (fun _ _ _ h => h) (Or.inl ⟨by rfl, by intro w hSw; clear hSw; go_simp; (try with_reducible rfl)⟩) (by assumption) ?_
    try simp only [Act.put, List.setIfInBounds_toArray, List.set_cons_zero, List.set_cons_succ]
    refine wpAnyH_done (by kernel_rfl) ?_ _
    clear hHeld
    go_wp2_with fail
    go_meet
    case rel => exact ⟨bn, s5, a5, c5, rfl, rfl, rfl, K0, T0, KN, O5, ⟨HLT.out, by have := HNB.out; have := HLT.out; omega⟩, fun k e q => HNE.out k e q, HB.out⟩
  case rest =>
    obtain ⟨b6, s5, a5, c5, rfl, rfl, rfl, K0, T0, K6, O5, h65, h6n, hb6⟩ := hcut
    have HB := Lib.hid hb6
    have H65 := Lib.hid h65
    clear hb6 h65 h6n
    go_upto_region 2 with fail
    have hK6 := K6.lt
    have hO5 := fun k e => (O5.lt k e).2
    go_cut [12, 13, 14] from 31 (fun z1 z2 z3 wc => ∃ (b9 s9 : Nat) (a9 : Option Addr) (c9 : Nat), z1 = .pointer (some ⟨b9, 0, none⟩) ∧ z2 = .int .i64 S ∧ z3 = .bool O ∧ Blk wc w.heap.size 16 a0 25 ∧ Blk wc (w.heap.size + 1) 4 a1 22 ∧ Rp wc b6 F (.slice a5 m c5) 29 ∧ OwnT wc s5 (.slice a5 m c5) m H ∧ Rp wc b9 F (.slice a9 m c9) 29 ∧ OwnT wc s9 (.slice a9 m c9) m H ∧ (b6 < s9 ∧ s9 ≤ b9 ∧ ∀ k, (Value.slice a5 m c5).ownBlock = some k → k < s9) ∧ (∀ k, (Value.slice a9 m c9).ownBlock = some k → k = b9 → False) ∧ Below w.heap.size w wc)
    case first =>
      generalize hs9 : wc.heap.size = s9 at *
      have HS5 : Hid (s9 ≤ wc.heap.size) := by show _ ≤ _; omega
      have HSZ0 : Hid (s9 ≤ wc.heap.size) := HS5
      have HLT : Hid (b6 < s9) := hK6
      have HOB : Hid (∀ k, (Value.slice a5 m c5).ownBlock = some k → k < s9) := hO5
      clear hs9 hO5 hK6
      refine wp_region_held_drew (S := fun W => Blk W w.heap.size 16 a0 25 ∧ Blk W (w.heap.size + 1) 4 a1 22) (by kernel_rfl) (⟨K0.drew, T0.drew⟩) (fun hHeld => ?_)
      have K0 : Blk wc.drew w.heap.size 16 a0 25 := K0.drew
      have T0 : Blk wc.drew (w.heap.size + 1) 4 a1 22 := T0.drew
      have K6 : Rp wc.drew b6 F (.slice a5 m c5) 29 := K6.drew
      have O5 : OwnT wc.drew s5 (.slice a5 m c5) m H := O5.drew
      have HB : Hid (Below w.heap.size w wc.drew) := HB.out.drew
      have HBX0 : Hid (Below wc.heap.size wc wc.drew) := (Below.refl _ wc).drew
      generalize wc.drew = x0 at *
      have HBX : Hid (Below wc.heap.size wc x0) := HBX0
      refine wpAnyH_take (i := 0) (oi := { dst := some 32, op := _, type := _, pos := _, after := _, guard := _ }) (v := .agg (mk 16 a0)) rfl (by kernel_rfl) (by kernel_rfl) (by kernel_rfl) (fun _ _ _ h => h) (Or.inl ⟨by rfl, fun _ q => execK q.1 rfl rfl⟩) (by assumption) ?_
      try simp only [Act.put, List.setIfInBounds_toArray, List.set_cons_zero, List.set_cons_succ]
      refine wpAnyH_take (i := 2) (oi := { dst := some 34, op := _, type := _, pos := _, after := _, guard := _ }) (v := .agg (mk 4 a1)) rfl (by kernel_rfl) (by kernel_rfl) (by kernel_rfl) (fun _ _ _ h => h) (Or.inl ⟨by rfl, fun _ q => execR4 q.2 rfl rfl⟩) (by assumption) ?_
      try simp only [Act.put, List.setIfInBounds_toArray, List.set_cons_zero, List.set_cons_succ]
      refine wpAnyH_take (i := 4) (oi := { dst := some 36, op := _, type := _, pos := _, after := _, guard := _ }) (v := .int .i64 a2) rfl (by kernel_rfl) (by kernel_rfl) (by kernel_rfl) (fun _ _ _ h => h) (Or.inl ⟨by rfl, by intro w hSw; clear hSw; go_simp; (try with_reducible rfl)⟩) (by assumption) ?_
      try simp only [Act.put, List.setIfInBounds_toArray, List.set_cons_zero, List.set_cons_succ]
      refine wpAnyH_take (i := 5) (oi := { dst := some 37, op := _, type := _, pos := _, after := _, guard := _ }) (v := .int .i64 a3) rfl (by kernel_rfl) (by kernel_rfl) (by kernel_rfl) (fun _ _ _ h => h) (Or.inl ⟨by rfl, by intro w hSw; clear hSw; go_simp; (try with_reducible rfl)⟩) (by assumption) ?_
      try simp only [Act.put, List.setIfInBounds_toArray, List.set_cons_zero, List.set_cons_succ]
      refine wpAnyH_ready (rs := [1, 11]) (by kernel_rfl) (by simp) ?_
      refine AllReadyH.cons rfl (fun K hK => ?_) ?_
      · go_simp
        refine (toBoard_any a0 _).mono ?_
        rintro e x1 ⟨rfl, hb⟩
        have K0 := K0.below hb K0.lt
        have T0 := T0.below hb T0.lt
        have K6 := K6.below hb K6.lt
        have O5 := O5.below hb
        have HB : Hid (Below w.heap.size w x1) := below3 HB.out hb
        have HBX : Hid (Below wc.heap.size wc x1) := below3 HBX.out hb
        clear hb hHeld
        go_wp2_with fail
        refine hK.out _ _ ⟨K0, T0⟩ (fun hHeld => ?_)
        clear hK K
        try simp only [Act.put, List.setIfInBounds_toArray, List.set_cons_zero, List.set_cons_succ]
        refine wpAnyH_ready (rs := [3, 11]) (by kernel_rfl) (by simp) ?_
        refine AllReadyH.cons rfl (fun K hK => ?_) ?_
        · go_simp
          refine (toIntA4_any a1 _).mono ?_
          rintro e x2 ⟨rfl, hb⟩
          have K0 := K0.below hb K0.lt
          have T0 := T0.below hb T0.lt
          have K6 := K6.below hb K6.lt
          have O5 := O5.below hb
          have HB : Hid (Below w.heap.size w x2) := below3 HB.out hb
          have HBX : Hid (Below wc.heap.size wc x2) := below3 HBX.out hb
          clear hb hHeld
          go_wp2_with fail
          refine hK.out _ _ ⟨K0, T0⟩ (fun hHeld => ?_)
          clear hK K
          try simp only [Act.put, List.setIfInBounds_toArray, List.set_cons_zero, List.set_cons_succ]
          refine wpAnyH_ready (rs := [6, 11]) (by kernel_rfl) (by simp) ?_
          refine AllReadyH.cons rfl (fun K hK => ?_) ?_
          · go_simp
            refine (HIM.out _).mono ?_
            rintro e x3 ⟨a9, c9, rfl, ho, hb⟩
            have K0 := K0.below hb K0.lt
            have T0 := T0.below hb T0.lt
            have K6 := K6.below hb K6.lt
            have O5 := O5.below hb
            have HB : Hid (Below w.heap.size w x3) := below3 HB.out hb
            have O9 : OwnT x3 s9 (.slice a9 m c9) m H := ho.wide (Nat.le_trans HS5.out HBX.out.size)
            have HBX : Hid (Below wc.heap.size wc x3) := below3 HBX.out hb
            clear hb hHeld ho
            go_wp2_with fail
            refine hK.out _ _ ⟨K0, T0⟩ (fun hHeld => ?_)
            clear hK K
            try simp only [Act.put, List.setIfInBounds_toArray, List.set_cons_zero, List.set_cons_succ]
            refine wpAnyH_take (i := 7) (oi := { dst := some 31, op := _, type := _, pos := _, after := _, guard := _ }) (v := .tuple #[.agg (rpl F (.slice a9 m c9)), .int .i64 S, .bool O]) rfl (by kernel_rfl) (by kernel_rfl) (by kernel_rfl) (fun _ _ _ h => h) (Or.inl ⟨by rfl, by intro w hSw; clear hSw; go_simp; (try with_reducible rfl)⟩) (by assumption) ?_
            try simp only [Act.put, List.setIfInBounds_toArray, List.set_cons_zero, List.set_cons_succ]
            refine wpAnyH_take (i := 8) (oi := { dst := some 39, op := _, type := _, pos := _, after := _, guard := _ }) (v := .agg (rpl F (.slice a9 m c9))) rfl (by kernel_rfl) (by kernel_rfl) (by kernel_rfl) (fun _ _ _ h => h) (Or.inl ⟨by rfl, by intro w hSw; clear hSw; go_simp; (try with_reducible rfl)⟩) (by assumption) ?_
            try simp only [Act.put, List.setIfInBounds_toArray, List.set_cons_zero, List.set_cons_succ]
            refine wpAnyH_take (i := 9) (oi := { dst := some 40, op := _, type := _, pos := _, after := _, guard := _ }) (v := .int .i64 S) rfl (by kernel_rfl) (by kernel_rfl) (by kernel_rfl) (fun _ _ _ h => h) (Or.inl ⟨by rfl, by intro w hSw; clear hSw; go_simp; (try with_reducible rfl)⟩) (by assumption) ?_
            try simp only [Act.put, List.setIfInBounds_toArray, List.set_cons_zero, List.set_cons_succ]
            refine wpAnyH_take (i := 10) (oi := { dst := some 41, op := _, type := _, pos := _, after := _, guard := _ }) (v := .bool O) rfl (by kernel_rfl) (by kernel_rfl) (by kernel_rfl) (fun _ _ _ h => h) (Or.inl ⟨by rfl, by intro w hSw; clear hSw; go_simp; (try with_reducible rfl)⟩) (by assumption) ?_
            try simp only [Act.put, List.setIfInBounds_toArray, List.set_cons_zero, List.set_cons_succ]
            refine wpAnyH_ready (rs := [11]) (by kernel_rfl) (by simp) ?_
            refine AllReadyH.cons rfl (fun K hK => ?_) AllReadyH.nil
            rw [if_pos (by rfl)]
            refine wp_allocRp rfl ?_
            have KN := Rp.new x3 (fun _ => 0) (.slice none 0 0) 29
            have HNB : Hid (s9 ≤ x3.heap.size) := Nat.le_trans HSZ0.out HBX.out.size
            have HNE : Hid (∀ k, (Value.slice a9 m c9).ownBlock = some k → k = x3.heap.size → False) := fun k e q => by have := (O9.lt k e).2; omega
            have K0 := K0.alloc (.cells (rpl (fun _ => 0) (.slice none 0 0)) 29)
            have T0 := T0.alloc (.cells (rpl (fun _ => 0) (.slice none 0 0)) 29)
            have K6 := K6.alloc (.cells (rpl (fun _ => 0) (.slice none 0 0)) 29)
            have O5 := O5.alloc (.cells (rpl (fun _ => 0) (.slice none 0 0)) 29)
            have O9 := O9.alloc (.cells (rpl (fun _ => 0) (.slice none 0 0)) 29)
            have HB : Hid (Below w.heap.size w (x3.alloc (.cells (rpl (fun _ => 0) (.slice none 0 0)) 29))) := HB.out.alloc HB.out.size _
            have HBX : Hid (Below wc.heap.size wc (x3.alloc (.cells (rpl (fun _ => 0) (.slice none 0 0)) 29))) := HBX.out.alloc HBX.out.size _
            clear hHeld
            generalize x3.alloc (.cells (rpl (fun _ => 0) (.slice none 0 0)) 29) = x4 at *
            generalize x3.heap.size = bn at *
            refine hK.out _ _ ⟨K0, T0⟩ (fun hHeld => ?_)
            clear hK K
            try simp only [Act.put, List.setIfInBounds_toArray, List.set_cons_zero, List.set_cons_succ]
            refine wpAnyH_ready (rs := [12]) (by kernel_rfl) (by simp) ?_
            refine AllReadyH.cons rfl (fun K hK => ?_) AllReadyH.nil
            have st1 := run_store_rp (g := F) (a := a9) (n := m) (c := c9) KN
            have ms1 : (rpl F (.slice a9 m c9)).size = 17 := rpl_size _ _
            go_simp
            clear st1 ms1
            have hg8 := grown_rp KN (rpl F (.slice a9 m c9))
            have O9 : OwnT (x4.setRow bn (rpl F (.slice a9 m c9))) s9 (.slice a9 m c9) m H := O9.kept hg8 (fun q => HNE.out _ q rfl)
            have K0 := K0.rowOther bn (rpl F (.slice a9 m c9)) (by have := HNB.out; have := HLT.out; have := H65.out; omega)
            have T0 := T0.rowOther bn (rpl F (.slice a9 m c9)) (by have := HNB.out; have := HLT.out; have := H65.out; omega)
            have K6 := K6.rowOther bn (rpl F (.slice a9 m c9)) (by have := HNB.out; have := HLT.out; have := H65.out; omega)
            have O5 := O5.kept hg8 (fun q => by have := HOB.out _ q; have := HNB.out; omega)
            have HB : Hid (Below w.heap.size w (x4.setRow bn (rpl F (.slice a9 m c9)))) := below_setRow HB.out (by have := HNB.out; have := HLT.out; have := H65.out; omega) _
            have KN := KN.row F (.slice a9 m c9)
            clear hHeld hg8
            generalize x4.setRow bn (rpl F (.slice a9 m c9)) = x5 at *
            refine hK.out _ _ ⟨K0, T0⟩ (fun hHeld => ?_)
            clear hK K
            try simp only [Act.put, List.setIfInBounds_toArray, List.set_cons_zero, List.set_cons_succ]
            refine wpAnyH_take (i := 13) (oi := { dst := some 13, op := _, type := _, pos := _, after := _, guard := _ }) (v := .int .i64 S) rfl (by kernel_rfl) (by kernel_rfl) (by kernel_rfl) (fun _ _ _ h => h) (Or.inl ⟨by rfl, by intro w hSw; clear hSw; go_simp; (try with_reducible rfl)⟩) (by assumption) ?_
            try simp only [Act.put, List.setIfInBounds_toArray, List.set_cons_zero, List.set_cons_succ]
            refine wpAnyH_take (i := 14) (oi := { dst := some 14, op := _, type := _, pos := _, after := _, guard := _ }) (v := .bool O) rfl (by kernel_rfl) (by kernel_rfl) (by kernel_rfl) (fun _ _ _ h => h) (Or.inl ⟨by rfl, by intro w hSw; clear hSw; go_simp; (try with_reducible rfl)⟩) (by assumption) ?_
            try simp only [Act.put, List.setIfInBounds_toArray, List.set_cons_zero, List.set_cons_succ]
            refine wpAnyH_done (by kernel_rfl) ?_ _
            clear hHeld
            go_wp2_with fail
            go_meet
            case rel => exact ⟨bn, s9, a9, c9, rfl, rfl, rfl, K0, T0, K6, O5, KN, O9, ⟨HLT.out, HNB.out, HOB.out⟩, fun k e q => HNE.out k e q, HB.out⟩
          refine AllReadyH.cons rfl (fun K hK => ?_) AllReadyH.nil
          rw [if_pos (by rfl)]
          refine wp_allocRp rfl ?_
          have KN := Rp.new x2 (fun _ => 0) (.slice none 0 0) 29
          have HNB : Hid (s9 ≤ x2.heap.size) := Nat.le_trans HSZ0.out HBX.out.size
          have K0 := K0.alloc (.cells (rpl (fun _ => 0) (.slice none 0 0)) 29)
          have T0 := T0.alloc (.cells (rpl (fun _ => 0) (.slice none 0 0)) 29)
          have K6 := K6.alloc (.cells (rpl (fun _ => 0) (.slice none 0 0)) 29)
          have O5 := O5.alloc (.cells (rpl (fun _ => 0) (.slice none 0 0)) 29)
          have HB : Hid (Below w.heap.size w (x2.alloc (.cells (rpl (fun _ => 0) (.slice none 0 0)) 29))) := HB.out.alloc HB.out.size _
          have HBX : Hid (Below wc.heap.size wc (x2.alloc (.cells (rpl (fun _ => 0) (.slice none 0 0)) 29))) := HBX.out.alloc HBX.out.size _
          clear hHeld
          generalize x2.alloc (.cells (rpl (fun _ => 0) (.slice none 0 0)) 29) = x3 at *
          generalize x2.heap.size = bn at *
          refine hK.out _ _ ⟨K0, T0⟩ (fun hHeld => ?_)
          clear hK K
          try simp only [Act.put, List.setIfInBounds_toArray, List.set_cons_zero, List.set_cons_succ]
          refine wpAnyH_ready (rs := [6]) (by kernel_rfl) (by simp) ?_
          refine AllReadyH.cons rfl (fun K hK => ?_) AllReadyH.nil
          go_simp
          refine (HIM.out _).mono ?_
          rintro e x4 ⟨a9, c9, rfl, ho, hb⟩
          have HNE : Hid (∀ k, (Value.slice a9 m c9).ownBlock = some k → k = bn → False) := fun k e q => by have := (ho.lt k e).1; have := KN.lt; omega
          have K0 := K0.below hb K0.lt
          have T0 := T0.below hb T0.lt
          have K6 := K6.below hb K6.lt
          have O5 := O5.below hb
          have KN := KN.below hb KN.lt
          have HB : Hid (Below w.heap.size w x4) := below3 HB.out hb
          have O9 : OwnT x4 s9 (.slice a9 m c9) m H := ho.wide (Nat.le_trans HS5.out HBX.out.size)
          have HBX : Hid (Below wc.heap.size wc x4) := below3 HBX.out hb
          clear hb hHeld ho
          go_wp2_with fail
          refine hK.out _ _ ⟨K0, T0⟩ (fun hHeld => ?_)
          clear hK K
          try simp only [Act.put, List.setIfInBounds_toArray, List.set_cons_zero, List.set_cons_succ]
          refine wpAnyH_take (i := 7) (oi := { dst := some 31, op := _, type := _, pos := _, after := _, guard := _ }) (v := .tuple #[.agg (rpl F (.slice a9 m c9)), .int .i64 S, .bool O]) rfl (by kernel_rfl) (by kernel_rfl) (by kernel_rfl) (fun _ _ _ h => h) (Or.inl ⟨by rfl, by intro w hSw; clear hSw; go_simp; (try with_reducible rfl)⟩) (by assumption) ?_
          try simp only [Act.put, List.setIfInBounds_toArray, List.set_cons_zero, List.set_cons_succ]
          refine wpAnyH_take (i := 8) (oi := { dst := some 39, op := _, type := _, pos := _, after := _, guard := _ }) (v := .agg (rpl F (.slice a9 m c9))) rfl (by kernel_rfl) (by kernel_rfl) (by kernel_rfl) (fun _ _ _ h => h) (Or.inl ⟨by rfl, by intro w hSw; clear hSw; go_simp; (try with_reducible rfl)⟩) (by assumption) ?_
          try simp only [Act.put, List.setIfInBounds_toArray, List.set_cons_zero, List.set_cons_succ]
          refine wpAnyH_take (i := 9) (oi := { dst := some 40, op := _, type := _, pos := _, after := _, guard := _ }) (v := .int .i64 S) rfl (by kernel_rfl) (by kernel_rfl) (by kernel_rfl) (fun _ _ _ h => h) (Or.inl ⟨by rfl, by intro w hSw; clear hSw; go_simp; (try with_reducible rfl)⟩) (by assumption) ?_
          try simp only [Act.put, List.setIfInBounds_toArray, List.set_cons_zero, List.set_cons_succ]
          refine wpAnyH_take (i := 10) (oi := { dst := some 41, op := _, type := _, pos := _, after := _, guard := _ }) (v := .bool O) rfl (by kernel_rfl) (by kernel_rfl) (by kernel_rfl) (fun _ _ _ h => h) (Or.inl ⟨by rfl, by intro w hSw; clear hSw; go_simp; (try with_reducible rfl)⟩) (by assumption) ?_
          try simp only [Act.put, List.setIfInBounds_toArray, List.set_cons_zero, List.set_cons_succ]
          refine wpAnyH_ready (rs := [12]) (by kernel_rfl) (by simp) ?_
          refine AllReadyH.cons rfl (fun K hK => ?_) AllReadyH.nil
          have st1 := run_store_rp (g := F) (a := a9) (n := m) (c := c9) KN
          have ms1 : (rpl F (.slice a9 m c9)).size = 17 := rpl_size _ _
          go_simp
          clear st1 ms1
          have hg8 := grown_rp KN (rpl F (.slice a9 m c9))
          have O9 : OwnT (x4.setRow bn (rpl F (.slice a9 m c9))) s9 (.slice a9 m c9) m H := O9.kept hg8 (fun q => HNE.out _ q rfl)
          have K0 := K0.rowOther bn (rpl F (.slice a9 m c9)) (by have := HNB.out; have := HLT.out; have := H65.out; omega)
          have T0 := T0.rowOther bn (rpl F (.slice a9 m c9)) (by have := HNB.out; have := HLT.out; have := H65.out; omega)
          have K6 := K6.rowOther bn (rpl F (.slice a9 m c9)) (by have := HNB.out; have := HLT.out; have := H65.out; omega)
          have O5 := O5.kept hg8 (fun q => by have := HOB.out _ q; have := HNB.out; omega)
          have HB : Hid (Below w.heap.size w (x4.setRow bn (rpl F (.slice a9 m c9)))) := below_setRow HB.out (by have := HNB.out; have := HLT.out; have := H65.out; omega) _
          have KN := KN.row F (.slice a9 m c9)
          clear hHeld hg8
          generalize x4.setRow bn (rpl F (.slice a9 m c9)) = x5 at *
          refine hK.out _ _ ⟨K0, T0⟩ (fun hHeld => ?_)
          clear hK K
          try simp only [Act.put, List.setIfInBounds_toArray, List.set_cons_zero, List.set_cons_succ]
          refine wpAnyH_take (i := 13) (oi := { dst := some 13, op := _, type := _, pos := _, after := _, guard := _ }) (v := .int .i64 S) rfl (by kernel_rfl) (by kernel_rfl) (by kernel_rfl) (fun _ _ _ h => h) (Or.inl ⟨by rfl, by intro w hSw; clear hSw; go_simp; (try with_reducible rfl)⟩) (by assumption) ?_
          try simp only [Act.put, List.setIfInBounds_toArray, List.set_cons_zero, List.set_cons_succ]
          refine wpAnyH_take (i := 14) (oi := { dst := some 14, op := _, type := _, pos := _, after := _, guard := _ }) (v := .bool O) rfl (by kernel_rfl) (by kernel_rfl) (by kernel_rfl) (fun _ _ _ h => h) (Or.inl ⟨by rfl, by intro w hSw; clear hSw; go_simp; (try with_reducible rfl)⟩) (by assumption) ?_
          try simp only [Act.put, List.setIfInBounds_toArray, List.set_cons_zero, List.set_cons_succ]
          refine wpAnyH_done (by kernel_rfl) ?_ _
          clear hHeld
          go_wp2_with fail
          go_meet
          case rel => exact ⟨bn, s9, a9, c9, rfl, rfl, rfl, K0, T0, K6, O5, KN, O9, ⟨HLT.out, HNB.out, HOB.out⟩, fun k e q => HNE.out k e q, HB.out⟩
        refine AllReadyH.cons rfl (fun K hK => ?_) AllReadyH.nil
        rw [if_pos (by rfl)]
        refine wp_allocRp rfl ?_
        have KN := Rp.new x1 (fun _ => 0) (.slice none 0 0) 29
        have HNB : Hid (s9 ≤ x1.heap.size) := Nat.le_trans HSZ0.out HBX.out.size
        have K0 := K0.alloc (.cells (rpl (fun _ => 0) (.slice none 0 0)) 29)
        have T0 := T0.alloc (.cells (rpl (fun _ => 0) (.slice none 0 0)) 29)
        have K6 := K6.alloc (.cells (rpl (fun _ => 0) (.slice none 0 0)) 29)
        have O5 := O5.alloc (.cells (rpl (fun _ => 0) (.slice none 0 0)) 29)
        have HB : Hid (Below w.heap.size w (x1.alloc (.cells (rpl (fun _ => 0) (.slice none 0 0)) 29))) := HB.out.alloc HB.out.size _
        have HBX : Hid (Below wc.heap.size wc (x1.alloc (.cells (rpl (fun _ => 0) (.slice none 0 0)) 29))) := HBX.out.alloc HBX.out.size _
        clear hHeld
        generalize x1.alloc (.cells (rpl (fun _ => 0) (.slice none 0 0)) 29) = x2 at *
        generalize x1.heap.size = bn at *
        refine hK.out _ _ ⟨K0, T0⟩ (fun hHeld => ?_)
        clear hK K
        try simp only [Act.put, List.setIfInBounds_toArray, List.set_cons_zero, List.set_cons_succ]
        refine wpAnyH_ready (rs := [3]) (by kernel_rfl) (by simp) ?_
        refine AllReadyH.cons rfl (fun K hK => ?_) AllReadyH.nil
        go_simp
        refine (toIntA4_any a1 _).mono ?_
        rintro e x3 ⟨rfl, hb⟩
        have K0 := K0.below hb K0.lt
        have T0 := T0.below hb T0.lt
        have K6 := K6.below hb K6.lt
        have O5 := O5.below hb
        have KN := KN.below hb KN.lt
        have HB : Hid (Below w.heap.size w x3) := below3 HB.out hb
        have HBX : Hid (Below wc.heap.size wc x3) := below3 HBX.out hb
        clear hb hHeld
        go_wp2_with fail
        refine hK.out _ _ ⟨K0, T0⟩ (fun hHeld => ?_)
        clear hK K
        try simp only [Act.put, List.setIfInBounds_toArray, List.set_cons_zero, List.set_cons_succ]
        refine wpAnyH_ready (rs := [6]) (by kernel_rfl) (by simp) ?_
        refine AllReadyH.cons rfl (fun K hK => ?_) AllReadyH.nil
        go_simp
        refine (HIM.out _).mono ?_
        rintro e x4 ⟨a9, c9, rfl, ho, hb⟩
        have HNE : Hid (∀ k, (Value.slice a9 m c9).ownBlock = some k → k = bn → False) := fun k e q => by have := (ho.lt k e).1; have := KN.lt; omega
        have K0 := K0.below hb K0.lt
        have T0 := T0.below hb T0.lt
        have K6 := K6.below hb K6.lt
        have O5 := O5.below hb
        have KN := KN.below hb KN.lt
        have HB : Hid (Below w.heap.size w x4) := below3 HB.out hb
        have O9 : OwnT x4 s9 (.slice a9 m c9) m H := ho.wide (Nat.le_trans HS5.out HBX.out.size)
        have HBX : Hid (Below wc.heap.size wc x4) := below3 HBX.out hb
        clear hb hHeld ho
        go_wp2_with fail
        refine hK.out _ _ ⟨K0, T0⟩ (fun hHeld => ?_)
        clear hK K
        try simp only [Act.put, List.setIfInBounds_toArray, List.set_cons_zero, List.set_cons_succ]
        refine wpAnyH_take (i := 7) (oi := { dst := some 31, op := _, type := _, pos := _, after := _, guard := _ }) (v := .tuple #[.agg (rpl F (.slice a9 m c9)), .int .i64 S, .bool O]) rfl (by kernel_rfl) (by kernel_rfl) (by kernel_rfl) (fun _ _ _ h => h) (Or.inl ⟨by rfl, by intro w hSw; clear hSw; go_simp; (try with_reducible rfl)⟩) (by assumption) ?_
        try simp only [Act.put, List.setIfInBounds_toArray, List.set_cons_zero, List.set_cons_succ]
        refine wpAnyH_take (i := 8) (oi := { dst := some 39, op := _, type := _, pos := _, after := _, guard := _ }) (v := .agg (rpl F (.slice a9 m c9))) rfl (by kernel_rfl) (by kernel_rfl) (by kernel_rfl) (fun _ _ _ h => h) (Or.inl ⟨by rfl, by intro w hSw; clear hSw; go_simp; (try with_reducible rfl)⟩) (by assumption) ?_
        try simp only [Act.put, List.setIfInBounds_toArray, List.set_cons_zero, List.set_cons_succ]
        refine wpAnyH_take (i := 9) (oi := { dst := some 40, op := _, type := _, pos := _, after := _, guard := _ }) (v := .int .i64 S) rfl (by kernel_rfl) (by kernel_rfl) (by kernel_rfl) (fun _ _ _ h => h) (Or.inl ⟨by rfl, by intro w hSw; clear hSw; go_simp; (try with_reducible rfl)⟩) (by assumption) ?_
        try simp only [Act.put, List.setIfInBounds_toArray, List.set_cons_zero, List.set_cons_succ]
        refine wpAnyH_take (i := 10) (oi := { dst := some 41, op := _, type := _, pos := _, after := _, guard := _ }) (v := .bool O) rfl (by kernel_rfl) (by kernel_rfl) (by kernel_rfl) (fun _ _ _ h => h) (Or.inl ⟨by rfl, by intro w hSw; clear hSw; go_simp; (try with_reducible rfl)⟩) (by assumption) ?_
        try simp only [Act.put, List.setIfInBounds_toArray, List.set_cons_zero, List.set_cons_succ]
        refine wpAnyH_ready (rs := [12]) (by kernel_rfl) (by simp) ?_
        refine AllReadyH.cons rfl (fun K hK => ?_) AllReadyH.nil
        have st1 := run_store_rp (g := F) (a := a9) (n := m) (c := c9) KN
        have ms1 : (rpl F (.slice a9 m c9)).size = 17 := rpl_size _ _
        go_simp
        clear st1 ms1
        have hg8 := grown_rp KN (rpl F (.slice a9 m c9))
        have O9 : OwnT (x4.setRow bn (rpl F (.slice a9 m c9))) s9 (.slice a9 m c9) m H := O9.kept hg8 (fun q => HNE.out _ q rfl)
        have K0 := K0.rowOther bn (rpl F (.slice a9 m c9)) (by have := HNB.out; have := HLT.out; have := H65.out; omega)
        have T0 := T0.rowOther bn (rpl F (.slice a9 m c9)) (by have := HNB.out; have := HLT.out; have := H65.out; omega)
        have K6 := K6.rowOther bn (rpl F (.slice a9 m c9)) (by have := HNB.out; have := HLT.out; have := H65.out; omega)
        have O5 := O5.kept hg8 (fun q => by have := HOB.out _ q; have := HNB.out; omega)
        have HB : Hid (Below w.heap.size w (x4.setRow bn (rpl F (.slice a9 m c9)))) := below_setRow HB.out (by have := HNB.out; have := HLT.out; have := H65.out; omega) _
        have KN := KN.row F (.slice a9 m c9)
        clear hHeld hg8
        generalize x4.setRow bn (rpl F (.slice a9 m c9)) = x5 at *
        refine hK.out _ _ ⟨K0, T0⟩ (fun hHeld => ?_)
        clear hK K
        try simp only [Act.put, List.setIfInBounds_toArray, List.set_cons_zero, List.set_cons_succ]
        refine wpAnyH_take (i := 13) (oi := { dst := some 13, op := _, type := _, pos := _, after := _, guard := _ }) (v := .int .i64 S) rfl (by kernel_rfl) (by kernel_rfl) (by kernel_rfl) (fun _ _ _ h => h) (Or.inl ⟨by rfl, by intro w hSw; clear hSw; go_simp; (try with_reducible rfl)⟩) (by assumption) ?_
        try simp only [Act.put, List.setIfInBounds_toArray, List.set_cons_zero, List.set_cons_succ]
        refine wpAnyH_take (i := 14) (oi := { dst := some 14, op := _, type := _, pos := _, after := _, guard := _ }) (v := .bool O) rfl (by kernel_rfl) (by kernel_rfl) (by kernel_rfl) (fun _ _ _ h => h) (Or.inl ⟨by rfl, by intro w hSw; clear hSw; go_simp; (try with_reducible rfl)⟩) (by assumption) ?_
        try simp only [Act.put, List.setIfInBounds_toArray, List.set_cons_zero, List.set_cons_succ]
        refine wpAnyH_done (by kernel_rfl) ?_ _
        clear hHeld
        go_wp2_with fail
        go_meet
        case rel => exact ⟨bn, s9, a9, c9, rfl, rfl, rfl, K0, T0, K6, O5, KN, O9, ⟨HLT.out, HNB.out, HOB.out⟩, fun k e q => HNE.out k e q, HB.out⟩
      refine AllReadyH.cons rfl (fun K hK => ?_) AllReadyH.nil
      rw [if_pos (by rfl)]
      refine wp_allocRp rfl ?_
      have KN := Rp.new x0 (fun _ => 0) (.slice none 0 0) 29
      have HNB : Hid (s9 ≤ x0.heap.size) := Nat.le_trans HSZ0.out HBX.out.size
      have K0 := K0.alloc (.cells (rpl (fun _ => 0) (.slice none 0 0)) 29)
      have T0 := T0.alloc (.cells (rpl (fun _ => 0) (.slice none 0 0)) 29)
      have K6 := K6.alloc (.cells (rpl (fun _ => 0) (.slice none 0 0)) 29)
      have O5 := O5.alloc (.cells (rpl (fun _ => 0) (.slice none 0 0)) 29)
      have HB : Hid (Below w.heap.size w (x0.alloc (.cells (rpl (fun _ => 0) (.slice none 0 0)) 29))) := HB.out.alloc HB.out.size _
      have HBX : Hid (Below wc.heap.size wc (x0.alloc (.cells (rpl (fun _ => 0) (.slice none 0 0)) 29))) := HBX.out.alloc HBX.out.size _
      clear hHeld
      generalize x0.alloc (.cells (rpl (fun _ => 0) (.slice none 0 0)) 29) = x1 at *
      generalize x0.heap.size = bn at *
      refine hK.out _ _ ⟨K0, T0⟩ (fun hHeld => ?_)
      clear hK K
      try simp only [Act.put, List.setIfInBounds_toArray, List.set_cons_zero, List.set_cons_succ]
      refine wpAnyH_ready (rs := [1]) (by kernel_rfl) (by simp) ?_
      refine AllReadyH.cons rfl (fun K hK => ?_) AllReadyH.nil
      go_simp
      refine (toBoard_any a0 _).mono ?_
      rintro e x2 ⟨rfl, hb⟩
      have K0 := K0.below hb K0.lt
      have T0 := T0.below hb T0.lt
      have K6 := K6.below hb K6.lt
      have O5 := O5.below hb
      have KN := KN.below hb KN.lt
      have HB : Hid (Below w.heap.size w x2) := below3 HB.out hb
      have HBX : Hid (Below wc.heap.size wc x2) := below3 HBX.out hb
      clear hb hHeld
      go_wp2_with fail
      refine hK.out _ _ ⟨K0, T0⟩ (fun hHeld => ?_)
      clear hK K
      try simp only [Act.put, List.setIfInBounds_toArray, List.set_cons_zero, List.set_cons_succ]
      refine wpAnyH_ready (rs := [3]) (by kernel_rfl) (by simp) ?_
      refine AllReadyH.cons rfl (fun K hK => ?_) AllReadyH.nil
      go_simp
      refine (toIntA4_any a1 _).mono ?_
      rintro e x3 ⟨rfl, hb⟩
      have K0 := K0.below hb K0.lt
      have T0 := T0.below hb T0.lt
      have K6 := K6.below hb K6.lt
      have O5 := O5.below hb
      have KN := KN.below hb KN.lt
      have HB : Hid (Below w.heap.size w x3) := below3 HB.out hb
      have HBX : Hid (Below wc.heap.size wc x3) := below3 HBX.out hb
      clear hb hHeld
      go_wp2_with fail
      refine hK.out _ _ ⟨K0, T0⟩ (fun hHeld => ?_)
      clear hK K
      try simp only [Act.put, List.setIfInBounds_toArray, List.set_cons_zero, List.set_cons_succ]
      refine wpAnyH_ready (rs := [6]) (by kernel_rfl) (by simp) ?_
      refine AllReadyH.cons rfl (fun K hK => ?_) AllReadyH.nil
      go_simp
      refine (HIM.out _).mono ?_
      rintro e x4 ⟨a9, c9, rfl, ho, hb⟩
      have HNE : Hid (∀ k, (Value.slice a9 m c9).ownBlock = some k → k = bn → False) := fun k e q => by have := (ho.lt k e).1; have := KN.lt; omega
      have K0 := K0.below hb K0.lt
      have T0 := T0.below hb T0.lt
      have K6 := K6.below hb K6.lt
      have O5 := O5.below hb
      have KN := KN.below hb KN.lt
      have HB : Hid (Below w.heap.size w x4) := below3 HB.out hb
      have O9 : OwnT x4 s9 (.slice a9 m c9) m H := ho.wide (Nat.le_trans HS5.out HBX.out.size)
      have HBX : Hid (Below wc.heap.size wc x4) := below3 HBX.out hb
      clear hb hHeld ho
      go_wp2_with fail
      refine hK.out _ _ ⟨K0, T0⟩ (fun hHeld => ?_)
      clear hK K
      try simp only [Act.put, List.setIfInBounds_toArray, List.set_cons_zero, List.set_cons_succ]
      refine wpAnyH_take (i := 7) (oi := { dst := some 31, op := _, type := _, pos := _, after := _, guard := _ }) (v := .tuple #[.agg (rpl F (.slice a9 m c9)), .int .i64 S, .bool O]) rfl (by kernel_rfl) (by kernel_rfl) (by kernel_rfl) (fun _ _ _ h => h) (Or.inl ⟨by rfl, by intro w hSw; clear hSw; go_simp; (try with_reducible rfl)⟩) (by assumption) ?_
      try simp only [Act.put, List.setIfInBounds_toArray, List.set_cons_zero, List.set_cons_succ]
      refine wpAnyH_take (i := 8) (oi := { dst := some 39, op := _, type := _, pos := _, after := _, guard := _ }) (v := .agg (rpl F (.slice a9 m c9))) rfl (by kernel_rfl) (by kernel_rfl) (by kernel_rfl) (fun _ _ _ h => h) (Or.inl ⟨by rfl, by intro w hSw; clear hSw; go_simp; (try with_reducible rfl)⟩) (by assumption) ?_
      try simp only [Act.put, List.setIfInBounds_toArray, List.set_cons_zero, List.set_cons_succ]
      refine wpAnyH_take (i := 9) (oi := { dst := some 40, op := _, type := _, pos := _, after := _, guard := _ }) (v := .int .i64 S) rfl (by kernel_rfl) (by kernel_rfl) (by kernel_rfl) (fun _ _ _ h => h) (Or.inl ⟨by rfl, by intro w hSw; clear hSw; go_simp; (try with_reducible rfl)⟩) (by assumption) ?_
      try simp only [Act.put, List.setIfInBounds_toArray, List.set_cons_zero, List.set_cons_succ]
      refine wpAnyH_take (i := 10) (oi := { dst := some 41, op := _, type := _, pos := _, after := _, guard := _ }) (v := .bool O) rfl (by kernel_rfl) (by kernel_rfl) (by kernel_rfl) (fun _ _ _ h => h) (Or.inl ⟨by rfl, by intro w hSw; clear hSw; go_simp; (try with_reducible rfl)⟩) (by assumption) ?_
      try simp only [Act.put, List.setIfInBounds_toArray, List.set_cons_zero, List.set_cons_succ]
      refine wpAnyH_ready (rs := [12]) (by kernel_rfl) (by simp) ?_
      refine AllReadyH.cons rfl (fun K hK => ?_) AllReadyH.nil
      have st1 := run_store_rp (g := F) (a := a9) (n := m) (c := c9) KN
      have ms1 : (rpl F (.slice a9 m c9)).size = 17 := rpl_size _ _
      go_simp
      clear st1 ms1
      have hg8 := grown_rp KN (rpl F (.slice a9 m c9))
      have O9 : OwnT (x4.setRow bn (rpl F (.slice a9 m c9))) s9 (.slice a9 m c9) m H := O9.kept hg8 (fun q => HNE.out _ q rfl)
      have K0 := K0.rowOther bn (rpl F (.slice a9 m c9)) (by have := HNB.out; have := HLT.out; have := H65.out; omega)
      have T0 := T0.rowOther bn (rpl F (.slice a9 m c9)) (by have := HNB.out; have := HLT.out; have := H65.out; omega)
      have K6 := K6.rowOther bn (rpl F (.slice a9 m c9)) (by have := HNB.out; have := HLT.out; have := H65.out; omega)
      have O5 := O5.kept hg8 (fun q => by have := HOB.out _ q; have := HNB.out; omega)
      have HB : Hid (Below w.heap.size w (x4.setRow bn (rpl F (.slice a9 m c9)))) := below_setRow HB.out (by have := HNB.out; have := HLT.out; have := H65.out; omega) _
      have KN := KN.row F (.slice a9 m c9)
      clear hHeld hg8
      generalize x4.setRow bn (rpl F (.slice a9 m c9)) = x5 at *
      refine hK.out _ _ ⟨K0, T0⟩ (fun hHeld => ?_)
      clear hK K
      try simp only [Act.put, List.setIfInBounds_toArray, List.set_cons_zero, List.set_cons_succ]
      refine wpAnyH_take (i := 13) (oi := { dst := some 13, op := _, type := _, pos := _, after := _, guard := _ }) (v := .int .i64 S) rfl (by kernel_rfl) (by kernel_rfl) (by kernel_rfl) (fun _ _ _ h => h) (Or.inl ⟨by rfl, by intro w hSw; clear hSw; go_simp; (try with_reducible rfl)⟩) (by assumption) ?_
      try simp only [Act.put, List.setIfInBounds_toArray, List.set_cons_zero, List.set_cons_succ]
      refine wpAnyH_take (i := 14) (oi := { dst := some 14, op := _, type := _, pos := _, after := _, guard := _ }) (v := .bool O) rfl (by kernel_rfl) (by kernel_rfl) (by kernel_rfl) (fun _ _ _ h => h) (Or.inl ⟨by rfl, by intro w hSw; clear hSw; go_simp; (try with_reducible rfl)⟩) (by assumption) ?_
      try simp only [Act.put, List.setIfInBounds_toArray, List.set_cons_zero, List.set_cons_succ]
      refine wpAnyH_done (by kernel_rfl) ?_ _
      clear hHeld
      go_wp2_with fail
      go_meet
      case rel => exact ⟨bn, s9, a9, c9, rfl, rfl, rfl, K0, T0, K6, O5, KN, O9, ⟨HLT.out, HNB.out, HOB.out⟩, fun k e q => HNE.out k e q, HB.out⟩
    case rest =>
      obtain ⟨b9, s9, a9, c9, rfl, rfl, rfl, K0, T0, K6, O5, K9, O9, h9, h9n, hb9⟩ := hcut
      have HB := Lib.hid hb9
      have H9 := Lib.hid h9
      have H9B := Lib.hid h9n
      clear hb9 h9 h9n hK6 hO5
      go_wp2_with (first | ((with_reducible show wpList _ _ _ (Oper.mk _ (Op.load 29 _) _ _ _ _ :: _) _ _); refine loadRp (K9) rfl rfl rfl ?_) | ((with_reducible show wpList _ _ _ (Oper.mk _ (Op.load 29 _) _ _ _ _ :: _) _ _); refine loadRp (K6) rfl rfl rfl ?_))
      refine (eqReplay_own F _ O9 O5 hm).mono ?_
      rintro e v21 ⟨rfl, hb⟩
      have K0 := K0.below hb K0.lt
      have T0 := T0.below hb T0.lt
      have K6 := K6.below hb K6.lt
      have O5 := O5.below hb
      have K9 := K9.below hb K9.lt
      have O9 := O9.below hb
      have HB : Hid (Below w.heap.size w v21) := below3 HB.out hb
      clear hb
      go_wp2_with ((with_reducible show wpList _ _ _ (Oper.mk _ (Op.load 29 _) _ _ _ _ :: _) _ _); refine loadRp (K9) rfl rfl rfl ?_)
      refine (markReplay_own F _ O9 hm).mono ?_
      rintro e v22 ⟨rfl, ho, hg⟩
      have h9 := O9.lt
      have K0 := blk_grown K0 hg (fun e => by have := (h9 _ e).1; have := H65.out; have := H9.out.1; have := H9.out.2.1; omega)
      have T0 := blk_grown T0 hg (fun e => by have := (h9 _ e).1; have := H65.out; have := H9.out.1; have := H9.out.2.1; omega)
      have K6 := rp_grown K6 hg (fun e => by have := (h9 _ e).1; have := H65.out; have := H9.out.1; have := H9.out.2.1; omega)
      have K9 := rp_grown K9 hg (fun e => H9B.out _ e rfl)
      have O5 := own_grown O5 hg (fun k hk e => by have := (h9 k hk).1; have := H9.out.2.2 k e; omega)
      have HB : Hid (Below w.heap.size w v22) := HB.out.grown hg HB.out.size (fun k hk => by have := (h9 k hk).1; have := H65.out; have := H9.out.1; have := H9.out.2.1; omega)
      have O9m : OwnT v22 s9 (.slice a9 m c9) m (fun j => ((1 + j : Nat) : Int)) := ho
      clear ho hg h9 O9
      have n3 : ¬ (((1 + m * 4 : Nat) : Int) < 0) := by omega
      go_wp2_with ((with_reducible show wpList _ _ _ (Oper.mk _ (Op.load 29 _) _ _ _ _ :: _) _ _); refine loadRp (K9) rfl rfl rfl ?_)
      refine (heldReplay_own F _ O9m hm).mono ?_
      rintro e v23 ⟨rfl, hb⟩
      have K0 := K0.below hb K0.lt
      have T0 := T0.below hb T0.lt
      have K6 := K6.below hb K6.lt
      have O5 := O5.below hb
      have K9 := K9.below hb K9.lt
      have O9m := O9m.below hb
      have HB : Hid (Below w.heap.size w v23) := below3 HB.out hb
      clear hb
      go_upto_region 13 with fail
      have hK9 := K9.lt
      have hO9 := fun k e => (O9m.lt k e).2
      go_cut [17, 18, 19] from 67 (fun z1 z2 z3 wc => ∃ (b7 s7 : Nat) (a7 : Option Addr) (c7 : Nat), z1 = .pointer (some ⟨b7, 0, none⟩) ∧ z2 = .int .i64 S ∧ z3 = .bool O ∧ Blk wc w.heap.size 16 a0 25 ∧ Blk wc (w.heap.size + 1) 4 a1 22 ∧ Rp wc b6 F (.slice a5 m c5) 29 ∧ OwnT wc s5 (.slice a5 m c5) m H ∧ Rp wc b9 F (.slice a9 m c9) 29 ∧ OwnT wc s9 (.slice a9 m c9) m (fun j => ((1 + j : Nat) : Int)) ∧ Rp wc b7 F (.slice a7 m c7) 29 ∧ OwnT wc s7 (.slice a7 m c7) m H ∧ (True) ∧ (∀ k, (Value.slice a7 m c7).ownBlock = some k → k = b7 → False) ∧ Below w.heap.size w wc)
      case first =>
        generalize hs9 : v23.heap.size = s7 at *
        have HS5 : Hid (s7 ≤ v23.heap.size) := by show _ ≤ _; omega
        have HSZ0 : Hid (s7 ≤ v23.heap.size) := HS5
        have HLT : Hid (b9 < s7) := hK9
        have HOB : Hid (∀ k, (Value.slice a5 m c5).ownBlock = some k → k < s7) := fun k e => by have := H9.out.2.2 k e; have := H9.out.2.1; have := HLT.out; omega
        have HOM : Hid (∀ k, (Value.slice a9 m c9).ownBlock = some k → k < s7) := hO9
        clear hs9 hO9 hK9
        refine wp_region_held_drew (S := fun W => Blk W w.heap.size 16 a0 25 ∧ Blk W (w.heap.size + 1) 4 a1 22) (by kernel_rfl) (⟨K0.drew, T0.drew⟩) (fun hHeld => ?_)
        have K0 : Blk v23.drew w.heap.size 16 a0 25 := K0.drew
        have T0 : Blk v23.drew (w.heap.size + 1) 4 a1 22 := T0.drew
        have K6 : Rp v23.drew b6 F (.slice a5 m c5) 29 := K6.drew
        have O5 : OwnT v23.drew s5 (.slice a5 m c5) m H := O5.drew
        have K9 : Rp v23.drew b9 F (.slice a9 m c9) 29 := K9.drew
        have O9m : OwnT v23.drew s9 (.slice a9 m c9) m (fun j => ((1 + j : Nat) : Int)) := O9m.drew
        have HB : Hid (Below w.heap.size w v23.drew) := HB.out.drew
        have HBX0 : Hid (Below v23.heap.size v23 v23.drew) := (Below.refl _ v23).drew
        generalize v23.drew = x0 at *
        have HBX : Hid (Below v23.heap.size v23 x0) := HBX0
        refine wpAnyH_take (i := 0) (oi := { dst := some 68, op := _, type := _, pos := _, after := _, guard := _ }) (v := .agg (mk 16 a0)) rfl (by kernel_rfl) (by kernel_rfl) (by kernel_rfl) (fun _ _ _ h => h) (Or.inl ⟨by rfl, fun _ q => execK q.1 rfl rfl⟩) (by assumption) ?_
        try simp only [Act.put, List.setIfInBounds_toArray, List.set_cons_zero, List.set_cons_succ]
        refine wpAnyH_take (i := 2) (oi := { dst := some 70, op := _, type := _, pos := _, after := _, guard := _ }) (v := .agg (mk 4 a1)) rfl (by kernel_rfl) (by kernel_rfl) (by kernel_rfl) (fun _ _ _ h => h) (Or.inl ⟨by rfl, fun _ q => execR4 q.2 rfl rfl⟩) (by assumption) ?_
        try simp only [Act.put, List.setIfInBounds_toArray, List.set_cons_zero, List.set_cons_succ]
        refine wpAnyH_take (i := 4) (oi := { dst := some 72, op := _, type := _, pos := _, after := _, guard := _ }) (v := .int .i64 a2) rfl (by kernel_rfl) (by kernel_rfl) (by kernel_rfl) (fun _ _ _ h => h) (Or.inl ⟨by rfl, by intro w hSw; clear hSw; go_simp; (try with_reducible rfl)⟩) (by assumption) ?_
        try simp only [Act.put, List.setIfInBounds_toArray, List.set_cons_zero, List.set_cons_succ]
        refine wpAnyH_take (i := 5) (oi := { dst := some 73, op := _, type := _, pos := _, after := _, guard := _ }) (v := .int .i64 a3) rfl (by kernel_rfl) (by kernel_rfl) (by kernel_rfl) (fun _ _ _ h => h) (Or.inl ⟨by rfl, by intro w hSw; clear hSw; go_simp; (try with_reducible rfl)⟩) (by assumption) ?_
        try simp only [Act.put, List.setIfInBounds_toArray, List.set_cons_zero, List.set_cons_succ]
        refine wpAnyH_ready (rs := [1, 11]) (by kernel_rfl) (by simp) ?_
        refine AllReadyH.cons rfl (fun K hK => ?_) ?_
        · go_simp
          refine (toBoard_any a0 _).mono ?_
          rintro e x1 ⟨rfl, hb⟩
          have K0 := K0.below hb K0.lt
          have T0 := T0.below hb T0.lt
          have K6 := K6.below hb K6.lt
          have O5 := O5.below hb
          have K9 := K9.below hb K9.lt
          have O9m := O9m.below hb
          have HB : Hid (Below w.heap.size w x1) := below3 HB.out hb
          have HBX : Hid (Below v23.heap.size v23 x1) := below3 HBX.out hb
          clear hb hHeld
          go_wp2_with fail
          refine hK.out _ _ ⟨K0, T0⟩ (fun hHeld => ?_)
          clear hK K
          try simp only [Act.put, List.setIfInBounds_toArray, List.set_cons_zero, List.set_cons_succ]
          refine wpAnyH_ready (rs := [3, 11]) (by kernel_rfl) (by simp) ?_
          refine AllReadyH.cons rfl (fun K hK => ?_) ?_
          · go_simp
            refine (toIntA4_any a1 _).mono ?_
            rintro e x2 ⟨rfl, hb⟩
            have K0 := K0.below hb K0.lt
            have T0 := T0.below hb T0.lt
            have K6 := K6.below hb K6.lt
            have O5 := O5.below hb
            have K9 := K9.below hb K9.lt
            have O9m := O9m.below hb
            have HB : Hid (Below w.heap.size w x2) := below3 HB.out hb
            have HBX : Hid (Below v23.heap.size v23 x2) := below3 HBX.out hb
            clear hb hHeld
            go_wp2_with fail
            refine hK.out _ _ ⟨K0, T0⟩ (fun hHeld => ?_)
            clear hK K
            try simp only [Act.put, List.setIfInBounds_toArray, List.set_cons_zero, List.set_cons_succ]
            refine wpAnyH_ready (rs := [6, 11]) (by kernel_rfl) (by simp) ?_
            refine AllReadyH.cons rfl (fun K hK => ?_) ?_
            · go_simp
              refine (HIM.out _).mono ?_
              rintro e x3 ⟨a7, c7, rfl, ho, hb⟩
              have K0 := K0.below hb K0.lt
              have T0 := T0.below hb T0.lt
              have K6 := K6.below hb K6.lt
              have O5 := O5.below hb
              have K9 := K9.below hb K9.lt
              have O9m := O9m.below hb
              have HB : Hid (Below w.heap.size w x3) := below3 HB.out hb
              have OZ : OwnT x3 s7 (.slice a7 m c7) m H := ho.wide (Nat.le_trans HS5.out HBX.out.size)
              have HBX : Hid (Below v23.heap.size v23 x3) := below3 HBX.out hb
              clear hb hHeld ho
              go_wp2_with fail
              refine hK.out _ _ ⟨K0, T0⟩ (fun hHeld => ?_)
              clear hK K
              try simp only [Act.put, List.setIfInBounds_toArray, List.set_cons_zero, List.set_cons_succ]
              refine wpAnyH_take (i := 7) (oi := { dst := some 67, op := _, type := _, pos := _, after := _, guard := _ }) (v := .tuple #[.agg (rpl F (.slice a7 m c7)), .int .i64 S, .bool O]) rfl (by kernel_rfl) (by kernel_rfl) (by kernel_rfl) (fun _ _ _ h => h) (Or.inl ⟨by rfl, by intro w hSw; clear hSw; go_simp; (try with_reducible rfl)⟩) (by assumption) ?_
              try simp only [Act.put, List.setIfInBounds_toArray, List.set_cons_zero, List.set_cons_succ]
              refine wpAnyH_take (i := 8) (oi := { dst := some 75, op := _, type := _, pos := _, after := _, guard := _ }) (v := .agg (rpl F (.slice a7 m c7))) rfl (by kernel_rfl) (by kernel_rfl) (by kernel_rfl) (fun _ _ _ h => h) (Or.inl ⟨by rfl, by intro w hSw; clear hSw; go_simp; (try with_reducible rfl)⟩) (by assumption) ?_
              try simp only [Act.put, List.setIfInBounds_toArray, List.set_cons_zero, List.set_cons_succ]
              refine wpAnyH_take (i := 9) (oi := { dst := some 76, op := _, type := _, pos := _, after := _, guard := _ }) (v := .int .i64 S) rfl (by kernel_rfl) (by kernel_rfl) (by kernel_rfl) (fun _ _ _ h => h) (Or.inl ⟨by rfl, by intro w hSw; clear hSw; go_simp; (try with_reducible rfl)⟩) (by assumption) ?_
              try simp only [Act.put, List.setIfInBounds_toArray, List.set_cons_zero, List.set_cons_succ]
              refine wpAnyH_take (i := 10) (oi := { dst := some 77, op := _, type := _, pos := _, after := _, guard := _ }) (v := .bool O) rfl (by kernel_rfl) (by kernel_rfl) (by kernel_rfl) (fun _ _ _ h => h) (Or.inl ⟨by rfl, by intro w hSw; clear hSw; go_simp; (try with_reducible rfl)⟩) (by assumption) ?_
              try simp only [Act.put, List.setIfInBounds_toArray, List.set_cons_zero, List.set_cons_succ]
              refine wpAnyH_ready (rs := [11]) (by kernel_rfl) (by simp) ?_
              refine AllReadyH.cons rfl (fun K hK => ?_) AllReadyH.nil
              rw [if_pos (by rfl)]
              refine wp_allocRp rfl ?_
              have KN := Rp.new x3 (fun _ => 0) (.slice none 0 0) 29
              have HNB : Hid (s7 ≤ x3.heap.size) := Nat.le_trans HSZ0.out HBX.out.size
              have HNE : Hid (∀ k, (Value.slice a7 m c7).ownBlock = some k → k = x3.heap.size → False) := fun k e q => by have := (OZ.lt k e).2; omega
              have K0 := K0.alloc (.cells (rpl (fun _ => 0) (.slice none 0 0)) 29)
              have T0 := T0.alloc (.cells (rpl (fun _ => 0) (.slice none 0 0)) 29)
              have K6 := K6.alloc (.cells (rpl (fun _ => 0) (.slice none 0 0)) 29)
              have O5 := O5.alloc (.cells (rpl (fun _ => 0) (.slice none 0 0)) 29)
              have K9 := K9.alloc (.cells (rpl (fun _ => 0) (.slice none 0 0)) 29)
              have O9m := O9m.alloc (.cells (rpl (fun _ => 0) (.slice none 0 0)) 29)
              have OZ := OZ.alloc (.cells (rpl (fun _ => 0) (.slice none 0 0)) 29)
              have HB : Hid (Below w.heap.size w (x3.alloc (.cells (rpl (fun _ => 0) (.slice none 0 0)) 29))) := HB.out.alloc HB.out.size _
              have HBX : Hid (Below v23.heap.size v23 (x3.alloc (.cells (rpl (fun _ => 0) (.slice none 0 0)) 29))) := HBX.out.alloc HBX.out.size _
              clear hHeld
              generalize x3.alloc (.cells (rpl (fun _ => 0) (.slice none 0 0)) 29) = x4 at *
              generalize x3.heap.size = bn at *
              refine hK.out _ _ ⟨K0, T0⟩ (fun hHeld => ?_)
              clear hK K
              try simp only [Act.put, List.setIfInBounds_toArray, List.set_cons_zero, List.set_cons_succ]
              refine wpAnyH_ready (rs := [12]) (by kernel_rfl) (by simp) ?_
              refine AllReadyH.cons rfl (fun K hK => ?_) AllReadyH.nil
              have st1 := run_store_rp (g := F) (a := a7) (n := m) (c := c7) KN
              have ms1 : (rpl F (.slice a7 m c7)).size = 17 := rpl_size _ _
              go_simp
              clear st1 ms1
              have hg8 := grown_rp KN (rpl F (.slice a7 m c7))
              have OZ : OwnT (x4.setRow bn (rpl F (.slice a7 m c7))) s7 (.slice a7 m c7) m H := OZ.kept hg8 (fun q => HNE.out _ q rfl)
              have K0 := K0.rowOther bn (rpl F (.slice a7 m c7)) (by have := HNB.out; have := HLT.out; have := H65.out; have := H9.out.1; have := H9.out.2.1; omega)
              have T0 := T0.rowOther bn (rpl F (.slice a7 m c7)) (by have := HNB.out; have := HLT.out; have := H65.out; have := H9.out.1; have := H9.out.2.1; omega)
              have K6 := K6.rowOther bn (rpl F (.slice a7 m c7)) (by have := HNB.out; have := HLT.out; have := H65.out; have := H9.out.1; have := H9.out.2.1; omega)
              have O5 := O5.kept hg8 (fun q => by have := HOB.out _ q; have := HNB.out; omega)
              have K9 := K9.rowOther bn (rpl F (.slice a7 m c7)) (by have := HNB.out; have := HLT.out; have := H65.out; have := H9.out.1; have := H9.out.2.1; omega)
              have O9m := O9m.kept hg8 (fun q => by have := HOM.out _ q; have := HNB.out; omega)
              have HB : Hid (Below w.heap.size w (x4.setRow bn (rpl F (.slice a7 m c7)))) := below_setRow HB.out (by have := HNB.out; have := HLT.out; have := H65.out; have := H9.out.1; have := H9.out.2.1; omega) _
              have KN := KN.row F (.slice a7 m c7)
              clear hHeld hg8
              generalize x4.setRow bn (rpl F (.slice a7 m c7)) = x5 at *
              refine hK.out _ _ ⟨K0, T0⟩ (fun hHeld => ?_)
              clear hK K
              try simp only [Act.put, List.setIfInBounds_toArray, List.set_cons_zero, List.set_cons_succ]
              refine wpAnyH_take (i := 13) (oi := { dst := some 18, op := _, type := _, pos := _, after := _, guard := _ }) (v := .int .i64 S) rfl (by kernel_rfl) (by kernel_rfl) (by kernel_rfl) (fun _ _ _ h => h) (Or.inl ⟨by rfl, by intro w hSw; clear hSw; go_simp; (try with_reducible rfl)⟩) (by assumption) ?_
              try simp only [Act.put, List.setIfInBounds_toArray, List.set_cons_zero, List.set_cons_succ]
              refine wpAnyH_take (i := 14) (oi := { dst := some 19, op := _, type := _, pos := _, after := _, guard := _ }) (v := .bool O) rfl (by kernel_rfl) (by kernel_rfl) (by kernel_rfl) (fun _ _ _ h => h) (Or.inl ⟨by rfl, by intro w hSw; clear hSw; go_simp; (try with_reducible rfl)⟩) (by assumption) ?_
              try simp only [Act.put, List.setIfInBounds_toArray, List.set_cons_zero, List.set_cons_succ]
              refine wpAnyH_done (by kernel_rfl) ?_ _
              clear hHeld
              go_wp2_with fail
              go_meet
              case rel => exact ⟨bn, s7, a7, c7, rfl, rfl, rfl, K0, T0, K6, O5, K9, O9m, KN, OZ, trivial, fun k e q => HNE.out k e q, HB.out⟩
            refine AllReadyH.cons rfl (fun K hK => ?_) AllReadyH.nil
            rw [if_pos (by rfl)]
            refine wp_allocRp rfl ?_
            have KN := Rp.new x2 (fun _ => 0) (.slice none 0 0) 29
            have HNB : Hid (s7 ≤ x2.heap.size) := Nat.le_trans HSZ0.out HBX.out.size
            have K0 := K0.alloc (.cells (rpl (fun _ => 0) (.slice none 0 0)) 29)
            have T0 := T0.alloc (.cells (rpl (fun _ => 0) (.slice none 0 0)) 29)
            have K6 := K6.alloc (.cells (rpl (fun _ => 0) (.slice none 0 0)) 29)
            have O5 := O5.alloc (.cells (rpl (fun _ => 0) (.slice none 0 0)) 29)
            have K9 := K9.alloc (.cells (rpl (fun _ => 0) (.slice none 0 0)) 29)
            have O9m := O9m.alloc (.cells (rpl (fun _ => 0) (.slice none 0 0)) 29)
            have HB : Hid (Below w.heap.size w (x2.alloc (.cells (rpl (fun _ => 0) (.slice none 0 0)) 29))) := HB.out.alloc HB.out.size _
            have HBX : Hid (Below v23.heap.size v23 (x2.alloc (.cells (rpl (fun _ => 0) (.slice none 0 0)) 29))) := HBX.out.alloc HBX.out.size _
            clear hHeld
            generalize x2.alloc (.cells (rpl (fun _ => 0) (.slice none 0 0)) 29) = x3 at *
            generalize x2.heap.size = bn at *
            refine hK.out _ _ ⟨K0, T0⟩ (fun hHeld => ?_)
            clear hK K
            try simp only [Act.put, List.setIfInBounds_toArray, List.set_cons_zero, List.set_cons_succ]
            refine wpAnyH_ready (rs := [6]) (by kernel_rfl) (by simp) ?_
            refine AllReadyH.cons rfl (fun K hK => ?_) AllReadyH.nil
            go_simp
            refine (HIM.out _).mono ?_
            rintro e x4 ⟨a7, c7, rfl, ho, hb⟩
            have HNE : Hid (∀ k, (Value.slice a7 m c7).ownBlock = some k → k = bn → False) := fun k e q => by have := (ho.lt k e).1; have := KN.lt; omega
            have K0 := K0.below hb K0.lt
            have T0 := T0.below hb T0.lt
            have K6 := K6.below hb K6.lt
            have O5 := O5.below hb
            have K9 := K9.below hb K9.lt
            have O9m := O9m.below hb
            have KN := KN.below hb KN.lt
            have HB : Hid (Below w.heap.size w x4) := below3 HB.out hb
            have OZ : OwnT x4 s7 (.slice a7 m c7) m H := ho.wide (Nat.le_trans HS5.out HBX.out.size)
            have HBX : Hid (Below v23.heap.size v23 x4) := below3 HBX.out hb
            clear hb hHeld ho
            go_wp2_with fail
            refine hK.out _ _ ⟨K0, T0⟩ (fun hHeld => ?_)
            clear hK K
            try simp only [Act.put, List.setIfInBounds_toArray, List.set_cons_zero, List.set_cons_succ]
            refine wpAnyH_take (i := 7) (oi := { dst := some 67, op := _, type := _, pos := _, after := _, guard := _ }) (v := .tuple #[.agg (rpl F (.slice a7 m c7)), .int .i64 S, .bool O]) rfl (by kernel_rfl) (by kernel_rfl) (by kernel_rfl) (fun _ _ _ h => h) (Or.inl ⟨by rfl, by intro w hSw; clear hSw; go_simp; (try with_reducible rfl)⟩) (by assumption) ?_
            try simp only [Act.put, List.setIfInBounds_toArray, List.set_cons_zero, List.set_cons_succ]
            refine wpAnyH_take (i := 8) (oi := { dst := some 75, op := _, type := _, pos := _, after := _, guard := _ }) (v := .agg (rpl F (.slice a7 m c7))) rfl (by kernel_rfl) (by kernel_rfl) (by kernel_rfl) (fun _ _ _ h => h) (Or.inl ⟨by rfl, by intro w hSw; clear hSw; go_simp; (try with_reducible rfl)⟩) (by assumption) ?_
            try simp only [Act.put, List.setIfInBounds_toArray, List.set_cons_zero, List.set_cons_succ]
            refine wpAnyH_take (i := 9) (oi := { dst := some 76, op := _, type := _, pos := _, after := _, guard := _ }) (v := .int .i64 S) rfl (by kernel_rfl) (by kernel_rfl) (by kernel_rfl) (fun _ _ _ h => h) (Or.inl ⟨by rfl, by intro w hSw; clear hSw; go_simp; (try with_reducible rfl)⟩) (by assumption) ?_
            try simp only [Act.put, List.setIfInBounds_toArray, List.set_cons_zero, List.set_cons_succ]
            refine wpAnyH_take (i := 10) (oi := { dst := some 77, op := _, type := _, pos := _, after := _, guard := _ }) (v := .bool O) rfl (by kernel_rfl) (by kernel_rfl) (by kernel_rfl) (fun _ _ _ h => h) (Or.inl ⟨by rfl, by intro w hSw; clear hSw; go_simp; (try with_reducible rfl)⟩) (by assumption) ?_
            try simp only [Act.put, List.setIfInBounds_toArray, List.set_cons_zero, List.set_cons_succ]
            refine wpAnyH_ready (rs := [12]) (by kernel_rfl) (by simp) ?_
            refine AllReadyH.cons rfl (fun K hK => ?_) AllReadyH.nil
            have st1 := run_store_rp (g := F) (a := a7) (n := m) (c := c7) KN
            have ms1 : (rpl F (.slice a7 m c7)).size = 17 := rpl_size _ _
            go_simp
            clear st1 ms1
            have hg8 := grown_rp KN (rpl F (.slice a7 m c7))
            have OZ : OwnT (x4.setRow bn (rpl F (.slice a7 m c7))) s7 (.slice a7 m c7) m H := OZ.kept hg8 (fun q => HNE.out _ q rfl)
            have K0 := K0.rowOther bn (rpl F (.slice a7 m c7)) (by have := HNB.out; have := HLT.out; have := H65.out; have := H9.out.1; have := H9.out.2.1; omega)
            have T0 := T0.rowOther bn (rpl F (.slice a7 m c7)) (by have := HNB.out; have := HLT.out; have := H65.out; have := H9.out.1; have := H9.out.2.1; omega)
            have K6 := K6.rowOther bn (rpl F (.slice a7 m c7)) (by have := HNB.out; have := HLT.out; have := H65.out; have := H9.out.1; have := H9.out.2.1; omega)
            have O5 := O5.kept hg8 (fun q => by have := HOB.out _ q; have := HNB.out; omega)
            have K9 := K9.rowOther bn (rpl F (.slice a7 m c7)) (by have := HNB.out; have := HLT.out; have := H65.out; have := H9.out.1; have := H9.out.2.1; omega)
            have O9m := O9m.kept hg8 (fun q => by have := HOM.out _ q; have := HNB.out; omega)
            have HB : Hid (Below w.heap.size w (x4.setRow bn (rpl F (.slice a7 m c7)))) := below_setRow HB.out (by have := HNB.out; have := HLT.out; have := H65.out; have := H9.out.1; have := H9.out.2.1; omega) _
            have KN := KN.row F (.slice a7 m c7)
            clear hHeld hg8
            generalize x4.setRow bn (rpl F (.slice a7 m c7)) = x5 at *
            refine hK.out _ _ ⟨K0, T0⟩ (fun hHeld => ?_)
            clear hK K
            try simp only [Act.put, List.setIfInBounds_toArray, List.set_cons_zero, List.set_cons_succ]
            refine wpAnyH_take (i := 13) (oi := { dst := some 18, op := _, type := _, pos := _, after := _, guard := _ }) (v := .int .i64 S) rfl (by kernel_rfl) (by kernel_rfl) (by kernel_rfl) (fun _ _ _ h => h) (Or.inl ⟨by rfl, by intro w hSw; clear hSw; go_simp; (try with_reducible rfl)⟩) (by assumption) ?_
            try simp only [Act.put, List.setIfInBounds_toArray, List.set_cons_zero, List.set_cons_succ]
            refine wpAnyH_take (i := 14) (oi := { dst := some 19, op := _, type := _, pos := _, after := _, guard := _ }) (v := .bool O) rfl (by kernel_rfl) (by kernel_rfl) (by kernel_rfl) (fun _ _ _ h => h) (Or.inl ⟨by rfl, by intro w hSw; clear hSw; go_simp; (try with_reducible rfl)⟩) (by assumption) ?_
            try simp only [Act.put, List.setIfInBounds_toArray, List.set_cons_zero, List.set_cons_succ]
            refine wpAnyH_done (by kernel_rfl) ?_ _
            clear hHeld
            go_wp2_with fail
            go_meet
            case rel => exact ⟨bn, s7, a7, c7, rfl, rfl, rfl, K0, T0, K6, O5, K9, O9m, KN, OZ, trivial, fun k e q => HNE.out k e q, HB.out⟩
          refine AllReadyH.cons rfl (fun K hK => ?_) AllReadyH.nil
          rw [if_pos (by rfl)]
          refine wp_allocRp rfl ?_
          have KN := Rp.new x1 (fun _ => 0) (.slice none 0 0) 29
          have HNB : Hid (s7 ≤ x1.heap.size) := Nat.le_trans HSZ0.out HBX.out.size
          have K0 := K0.alloc (.cells (rpl (fun _ => 0) (.slice none 0 0)) 29)
          have T0 := T0.alloc (.cells (rpl (fun _ => 0) (.slice none 0 0)) 29)
          have K6 := K6.alloc (.cells (rpl (fun _ => 0) (.slice none 0 0)) 29)
          have O5 := O5.alloc (.cells (rpl (fun _ => 0) (.slice none 0 0)) 29)
          have K9 := K9.alloc (.cells (rpl (fun _ => 0) (.slice none 0 0)) 29)
          have O9m := O9m.alloc (.cells (rpl (fun _ => 0) (.slice none 0 0)) 29)
          have HB : Hid (Below w.heap.size w (x1.alloc (.cells (rpl (fun _ => 0) (.slice none 0 0)) 29))) := HB.out.alloc HB.out.size _
          have HBX : Hid (Below v23.heap.size v23 (x1.alloc (.cells (rpl (fun _ => 0) (.slice none 0 0)) 29))) := HBX.out.alloc HBX.out.size _
          clear hHeld
          generalize x1.alloc (.cells (rpl (fun _ => 0) (.slice none 0 0)) 29) = x2 at *
          generalize x1.heap.size = bn at *
          refine hK.out _ _ ⟨K0, T0⟩ (fun hHeld => ?_)
          clear hK K
          try simp only [Act.put, List.setIfInBounds_toArray, List.set_cons_zero, List.set_cons_succ]
          refine wpAnyH_ready (rs := [3]) (by kernel_rfl) (by simp) ?_
          refine AllReadyH.cons rfl (fun K hK => ?_) AllReadyH.nil
          go_simp
          refine (toIntA4_any a1 _).mono ?_
          rintro e x3 ⟨rfl, hb⟩
          have K0 := K0.below hb K0.lt
          have T0 := T0.below hb T0.lt
          have K6 := K6.below hb K6.lt
          have O5 := O5.below hb
          have K9 := K9.below hb K9.lt
          have O9m := O9m.below hb
          have KN := KN.below hb KN.lt
          have HB : Hid (Below w.heap.size w x3) := below3 HB.out hb
          have HBX : Hid (Below v23.heap.size v23 x3) := below3 HBX.out hb
          clear hb hHeld
          go_wp2_with fail
          refine hK.out _ _ ⟨K0, T0⟩ (fun hHeld => ?_)
          clear hK K
          try simp only [Act.put, List.setIfInBounds_toArray, List.set_cons_zero, List.set_cons_succ]
          refine wpAnyH_ready (rs := [6]) (by kernel_rfl) (by simp) ?_
          refine AllReadyH.cons rfl (fun K hK => ?_) AllReadyH.nil
          go_simp
          refine (HIM.out _).mono ?_
          rintro e x4 ⟨a7, c7, rfl, ho, hb⟩
          have HNE : Hid (∀ k, (Value.slice a7 m c7).ownBlock = some k → k = bn → False) := fun k e q => by have := (ho.lt k e).1; have := KN.lt; omega
          have K0 := K0.below hb K0.lt
          have T0 := T0.below hb T0.lt
          have K6 := K6.below hb K6.lt
          have O5 := O5.below hb
          have K9 := K9.below hb K9.lt
          have O9m := O9m.below hb
          have KN := KN.below hb KN.lt
          have HB : Hid (Below w.heap.size w x4) := below3 HB.out hb
          have OZ : OwnT x4 s7 (.slice a7 m c7) m H := ho.wide (Nat.le_trans HS5.out HBX.out.size)
          have HBX : Hid (Below v23.heap.size v23 x4) := below3 HBX.out hb
          clear hb hHeld ho
          go_wp2_with fail
          refine hK.out _ _ ⟨K0, T0⟩ (fun hHeld => ?_)
          clear hK K
          try simp only [Act.put, List.setIfInBounds_toArray, List.set_cons_zero, List.set_cons_succ]
          refine wpAnyH_take (i := 7) (oi := { dst := some 67, op := _, type := _, pos := _, after := _, guard := _ }) (v := .tuple #[.agg (rpl F (.slice a7 m c7)), .int .i64 S, .bool O]) rfl (by kernel_rfl) (by kernel_rfl) (by kernel_rfl) (fun _ _ _ h => h) (Or.inl ⟨by rfl, by intro w hSw; clear hSw; go_simp; (try with_reducible rfl)⟩) (by assumption) ?_
          try simp only [Act.put, List.setIfInBounds_toArray, List.set_cons_zero, List.set_cons_succ]
          refine wpAnyH_take (i := 8) (oi := { dst := some 75, op := _, type := _, pos := _, after := _, guard := _ }) (v := .agg (rpl F (.slice a7 m c7))) rfl (by kernel_rfl) (by kernel_rfl) (by kernel_rfl) (fun _ _ _ h => h) (Or.inl ⟨by rfl, by intro w hSw; clear hSw; go_simp; (try with_reducible rfl)⟩) (by assumption) ?_
          try simp only [Act.put, List.setIfInBounds_toArray, List.set_cons_zero, List.set_cons_succ]
          refine wpAnyH_take (i := 9) (oi := { dst := some 76, op := _, type := _, pos := _, after := _, guard := _ }) (v := .int .i64 S) rfl (by kernel_rfl) (by kernel_rfl) (by kernel_rfl) (fun _ _ _ h => h) (Or.inl ⟨by rfl, by intro w hSw; clear hSw; go_simp; (try with_reducible rfl)⟩) (by assumption) ?_
          try simp only [Act.put, List.setIfInBounds_toArray, List.set_cons_zero, List.set_cons_succ]
          refine wpAnyH_take (i := 10) (oi := { dst := some 77, op := _, type := _, pos := _, after := _, guard := _ }) (v := .bool O) rfl (by kernel_rfl) (by kernel_rfl) (by kernel_rfl) (fun _ _ _ h => h) (Or.inl ⟨by rfl, by intro w hSw; clear hSw; go_simp; (try with_reducible rfl)⟩) (by assumption) ?_
          try simp only [Act.put, List.setIfInBounds_toArray, List.set_cons_zero, List.set_cons_succ]
          refine wpAnyH_ready (rs := [12]) (by kernel_rfl) (by simp) ?_
          refine AllReadyH.cons rfl (fun K hK => ?_) AllReadyH.nil
          have st1 := run_store_rp (g := F) (a := a7) (n := m) (c := c7) KN
          have ms1 : (rpl F (.slice a7 m c7)).size = 17 := rpl_size _ _
          go_simp
          clear st1 ms1
          have hg8 := grown_rp KN (rpl F (.slice a7 m c7))
          have OZ : OwnT (x4.setRow bn (rpl F (.slice a7 m c7))) s7 (.slice a7 m c7) m H := OZ.kept hg8 (fun q => HNE.out _ q rfl)
          have K0 := K0.rowOther bn (rpl F (.slice a7 m c7)) (by have := HNB.out; have := HLT.out; have := H65.out; have := H9.out.1; have := H9.out.2.1; omega)
          have T0 := T0.rowOther bn (rpl F (.slice a7 m c7)) (by have := HNB.out; have := HLT.out; have := H65.out; have := H9.out.1; have := H9.out.2.1; omega)
          have K6 := K6.rowOther bn (rpl F (.slice a7 m c7)) (by have := HNB.out; have := HLT.out; have := H65.out; have := H9.out.1; have := H9.out.2.1; omega)
          have O5 := O5.kept hg8 (fun q => by have := HOB.out _ q; have := HNB.out; omega)
          have K9 := K9.rowOther bn (rpl F (.slice a7 m c7)) (by have := HNB.out; have := HLT.out; have := H65.out; have := H9.out.1; have := H9.out.2.1; omega)
          have O9m := O9m.kept hg8 (fun q => by have := HOM.out _ q; have := HNB.out; omega)
          have HB : Hid (Below w.heap.size w (x4.setRow bn (rpl F (.slice a7 m c7)))) := below_setRow HB.out (by have := HNB.out; have := HLT.out; have := H65.out; have := H9.out.1; have := H9.out.2.1; omega) _
          have KN := KN.row F (.slice a7 m c7)
          clear hHeld hg8
          generalize x4.setRow bn (rpl F (.slice a7 m c7)) = x5 at *
          refine hK.out _ _ ⟨K0, T0⟩ (fun hHeld => ?_)
          clear hK K
          try simp only [Act.put, List.setIfInBounds_toArray, List.set_cons_zero, List.set_cons_succ]
          refine wpAnyH_take (i := 13) (oi := { dst := some 18, op := _, type := _, pos := _, after := _, guard := _ }) (v := .int .i64 S) rfl (by kernel_rfl) (by kernel_rfl) (by kernel_rfl) (fun _ _ _ h => h) (Or.inl ⟨by rfl, by intro w hSw; clear hSw; go_simp; (try with_reducible rfl)⟩) (by assumption) ?_
          try simp only [Act.put, List.setIfInBounds_toArray, List.set_cons_zero, List.set_cons_succ]
          refine wpAnyH_take (i := 14) (oi := { dst := some 19, op := _, type := _, pos := _, after := _, guard := _ }) (v := .bool O) rfl (by kernel_rfl) (by kernel_rfl) (by kernel_rfl) (fun _ _ _ h => h) (Or.inl ⟨by rfl, by intro w hSw; clear hSw; go_simp; (try with_reducible rfl)⟩) (by assumption) ?_
          try simp only [Act.put, List.setIfInBounds_toArray, List.set_cons_zero, List.set_cons_succ]
          refine wpAnyH_done (by kernel_rfl) ?_ _
          clear hHeld
          go_wp2_with fail
          go_meet
          case rel => exact ⟨bn, s7, a7, c7, rfl, rfl, rfl, K0, T0, K6, O5, K9, O9m, KN, OZ, trivial, fun k e q => HNE.out k e q, HB.out⟩
        refine AllReadyH.cons rfl (fun K hK => ?_) AllReadyH.nil
        rw [if_pos (by rfl)]
        refine wp_allocRp rfl ?_
        have KN := Rp.new x0 (fun _ => 0) (.slice none 0 0) 29
        have HNB : Hid (s7 ≤ x0.heap.size) := Nat.le_trans HSZ0.out HBX.out.size
        have K0 := K0.alloc (.cells (rpl (fun _ => 0) (.slice none 0 0)) 29)
        have T0 := T0.alloc (.cells (rpl (fun _ => 0) (.slice none 0 0)) 29)
        have K6 := K6.alloc (.cells (rpl (fun _ => 0) (.slice none 0 0)) 29)
        have O5 := O5.alloc (.cells (rpl (fun _ => 0) (.slice none 0 0)) 29)
        have K9 := K9.alloc (.cells (rpl (fun _ => 0) (.slice none 0 0)) 29)
        have O9m := O9m.alloc (.cells (rpl (fun _ => 0) (.slice none 0 0)) 29)
        have HB : Hid (Below w.heap.size w (x0.alloc (.cells (rpl (fun _ => 0) (.slice none 0 0)) 29))) := HB.out.alloc HB.out.size _
        have HBX : Hid (Below v23.heap.size v23 (x0.alloc (.cells (rpl (fun _ => 0) (.slice none 0 0)) 29))) := HBX.out.alloc HBX.out.size _
        clear hHeld
        generalize x0.alloc (.cells (rpl (fun _ => 0) (.slice none 0 0)) 29) = x1 at *
        generalize x0.heap.size = bn at *
        refine hK.out _ _ ⟨K0, T0⟩ (fun hHeld => ?_)
        clear hK K
        try simp only [Act.put, List.setIfInBounds_toArray, List.set_cons_zero, List.set_cons_succ]
        refine wpAnyH_ready (rs := [1]) (by kernel_rfl) (by simp) ?_
        refine AllReadyH.cons rfl (fun K hK => ?_) AllReadyH.nil
        go_simp
        refine (toBoard_any a0 _).mono ?_
        rintro e x2 ⟨rfl, hb⟩
        have K0 := K0.below hb K0.lt
        have T0 := T0.below hb T0.lt
        have K6 := K6.below hb K6.lt
        have O5 := O5.below hb
        have K9 := K9.below hb K9.lt
        have O9m := O9m.below hb
        have KN := KN.below hb KN.lt
        have HB : Hid (Below w.heap.size w x2) := below3 HB.out hb
        have HBX : Hid (Below v23.heap.size v23 x2) := below3 HBX.out hb
        clear hb hHeld
        go_wp2_with fail
        refine hK.out _ _ ⟨K0, T0⟩ (fun hHeld => ?_)
        clear hK K
        try simp only [Act.put, List.setIfInBounds_toArray, List.set_cons_zero, List.set_cons_succ]
        refine wpAnyH_ready (rs := [3]) (by kernel_rfl) (by simp) ?_
        refine AllReadyH.cons rfl (fun K hK => ?_) AllReadyH.nil
        go_simp
        refine (toIntA4_any a1 _).mono ?_
        rintro e x3 ⟨rfl, hb⟩
        have K0 := K0.below hb K0.lt
        have T0 := T0.below hb T0.lt
        have K6 := K6.below hb K6.lt
        have O5 := O5.below hb
        have K9 := K9.below hb K9.lt
        have O9m := O9m.below hb
        have KN := KN.below hb KN.lt
        have HB : Hid (Below w.heap.size w x3) := below3 HB.out hb
        have HBX : Hid (Below v23.heap.size v23 x3) := below3 HBX.out hb
        clear hb hHeld
        go_wp2_with fail
        refine hK.out _ _ ⟨K0, T0⟩ (fun hHeld => ?_)
        clear hK K
        try simp only [Act.put, List.setIfInBounds_toArray, List.set_cons_zero, List.set_cons_succ]
        refine wpAnyH_ready (rs := [6]) (by kernel_rfl) (by simp) ?_
        refine AllReadyH.cons rfl (fun K hK => ?_) AllReadyH.nil
        go_simp
        refine (HIM.out _).mono ?_
        rintro e x4 ⟨a7, c7, rfl, ho, hb⟩
        have HNE : Hid (∀ k, (Value.slice a7 m c7).ownBlock = some k → k = bn → False) := fun k e q => by have := (ho.lt k e).1; have := KN.lt; omega
        have K0 := K0.below hb K0.lt
        have T0 := T0.below hb T0.lt
        have K6 := K6.below hb K6.lt
        have O5 := O5.below hb
        have K9 := K9.below hb K9.lt
        have O9m := O9m.below hb
        have KN := KN.below hb KN.lt
        have HB : Hid (Below w.heap.size w x4) := below3 HB.out hb
        have OZ : OwnT x4 s7 (.slice a7 m c7) m H := ho.wide (Nat.le_trans HS5.out HBX.out.size)
        have HBX : Hid (Below v23.heap.size v23 x4) := below3 HBX.out hb
        clear hb hHeld ho
        go_wp2_with fail
        refine hK.out _ _ ⟨K0, T0⟩ (fun hHeld => ?_)
        clear hK K
        try simp only [Act.put, List.setIfInBounds_toArray, List.set_cons_zero, List.set_cons_succ]
        refine wpAnyH_take (i := 7) (oi := { dst := some 67, op := _, type := _, pos := _, after := _, guard := _ }) (v := .tuple #[.agg (rpl F (.slice a7 m c7)), .int .i64 S, .bool O]) rfl (by kernel_rfl) (by kernel_rfl) (by kernel_rfl) (fun _ _ _ h => h) (Or.inl ⟨by rfl, by intro w hSw; clear hSw; go_simp; (try with_reducible rfl)⟩) (by assumption) ?_
        try simp only [Act.put, List.setIfInBounds_toArray, List.set_cons_zero, List.set_cons_succ]
        refine wpAnyH_take (i := 8) (oi := { dst := some 75, op := _, type := _, pos := _, after := _, guard := _ }) (v := .agg (rpl F (.slice a7 m c7))) rfl (by kernel_rfl) (by kernel_rfl) (by kernel_rfl) (fun _ _ _ h => h) (Or.inl ⟨by rfl, by intro w hSw; clear hSw; go_simp; (try with_reducible rfl)⟩) (by assumption) ?_
        try simp only [Act.put, List.setIfInBounds_toArray, List.set_cons_zero, List.set_cons_succ]
        refine wpAnyH_take (i := 9) (oi := { dst := some 76, op := _, type := _, pos := _, after := _, guard := _ }) (v := .int .i64 S) rfl (by kernel_rfl) (by kernel_rfl) (by kernel_rfl) (fun _ _ _ h => h) (Or.inl ⟨by rfl, by intro w hSw; clear hSw; go_simp; (try with_reducible rfl)⟩) (by assumption) ?_
        try simp only [Act.put, List.setIfInBounds_toArray, List.set_cons_zero, List.set_cons_succ]
        refine wpAnyH_take (i := 10) (oi := { dst := some 77, op := _, type := _, pos := _, after := _, guard := _ }) (v := .bool O) rfl (by kernel_rfl) (by kernel_rfl) (by kernel_rfl) (fun _ _ _ h => h) (Or.inl ⟨by rfl, by intro w hSw; clear hSw; go_simp; (try with_reducible rfl)⟩) (by assumption) ?_
        try simp only [Act.put, List.setIfInBounds_toArray, List.set_cons_zero, List.set_cons_succ]
        refine wpAnyH_ready (rs := [12]) (by kernel_rfl) (by simp) ?_
        refine AllReadyH.cons rfl (fun K hK => ?_) AllReadyH.nil
        have st1 := run_store_rp (g := F) (a := a7) (n := m) (c := c7) KN
        have ms1 : (rpl F (.slice a7 m c7)).size = 17 := rpl_size _ _
        go_simp
        clear st1 ms1
        have hg8 := grown_rp KN (rpl F (.slice a7 m c7))
        have OZ : OwnT (x4.setRow bn (rpl F (.slice a7 m c7))) s7 (.slice a7 m c7) m H := OZ.kept hg8 (fun q => HNE.out _ q rfl)
        have K0 := K0.rowOther bn (rpl F (.slice a7 m c7)) (by have := HNB.out; have := HLT.out; have := H65.out; have := H9.out.1; have := H9.out.2.1; omega)
        have T0 := T0.rowOther bn (rpl F (.slice a7 m c7)) (by have := HNB.out; have := HLT.out; have := H65.out; have := H9.out.1; have := H9.out.2.1; omega)
        have K6 := K6.rowOther bn (rpl F (.slice a7 m c7)) (by have := HNB.out; have := HLT.out; have := H65.out; have := H9.out.1; have := H9.out.2.1; omega)
        have O5 := O5.kept hg8 (fun q => by have := HOB.out _ q; have := HNB.out; omega)
        have K9 := K9.rowOther bn (rpl F (.slice a7 m c7)) (by have := HNB.out; have := HLT.out; have := H65.out; have := H9.out.1; have := H9.out.2.1; omega)
        have O9m := O9m.kept hg8 (fun q => by have := HOM.out _ q; have := HNB.out; omega)
        have HB : Hid (Below w.heap.size w (x4.setRow bn (rpl F (.slice a7 m c7)))) := below_setRow HB.out (by have := HNB.out; have := HLT.out; have := H65.out; have := H9.out.1; have := H9.out.2.1; omega) _
        have KN := KN.row F (.slice a7 m c7)
        clear hHeld hg8
        generalize x4.setRow bn (rpl F (.slice a7 m c7)) = x5 at *
        refine hK.out _ _ ⟨K0, T0⟩ (fun hHeld => ?_)
        clear hK K
        try simp only [Act.put, List.setIfInBounds_toArray, List.set_cons_zero, List.set_cons_succ]
        refine wpAnyH_take (i := 13) (oi := { dst := some 18, op := _, type := _, pos := _, after := _, guard := _ }) (v := .int .i64 S) rfl (by kernel_rfl) (by kernel_rfl) (by kernel_rfl) (fun _ _ _ h => h) (Or.inl ⟨by rfl, by intro w hSw; clear hSw; go_simp; (try with_reducible rfl)⟩) (by assumption) ?_
        try simp only [Act.put, List.setIfInBounds_toArray, List.set_cons_zero, List.set_cons_succ]
        refine wpAnyH_take (i := 14) (oi := { dst := some 19, op := _, type := _, pos := _, after := _, guard := _ }) (v := .bool O) rfl (by kernel_rfl) (by kernel_rfl) (by kernel_rfl) (fun _ _ _ h => h) (Or.inl ⟨by rfl, by intro w hSw; clear hSw; go_simp; (try with_reducible rfl)⟩) (by assumption) ?_
        try simp only [Act.put, List.setIfInBounds_toArray, List.set_cons_zero, List.set_cons_succ]
        refine wpAnyH_done (by kernel_rfl) ?_ _
        clear hHeld
        go_wp2_with fail
        go_meet
        case rel => exact ⟨bn, s7, a7, c7, rfl, rfl, rfl, K0, T0, K6, O5, K9, O9m, KN, OZ, trivial, fun k e q => HNE.out k e q, HB.out⟩
      case rest =>
        obtain ⟨b7, s7, a7, c7, rfl, rfl, rfl, K0, T0, K6, O5, K9, O9m, KZ, OZ, _, _, hb7⟩ := hcut
        have HB := Lib.hid hb7
        clear hb7 hK9 hO9
        go_wp2_with (first | ((with_reducible show wpList _ _ _ (Oper.mk _ (Op.load 29 _) _ _ _ _ :: _) _ _); refine loadRp (KZ) rfl rfl rfl ?_) | ((with_reducible show wpList _ _ _ (Oper.mk _ (Op.load 29 _) _ _ _ _ :: _) _ _); refine loadRp (K6) rfl rfl rfl ?_))
        refine (eqReplay_own F _ OZ O5 hm).mono ?_
        rintro e v24 ⟨rfl, hb⟩
        have K0 := K0.below hb K0.lt
        have T0 := T0.below hb T0.lt
        have K6 := K6.below hb K6.lt
        have O5 := O5.below hb
        have K9 := K9.below hb K9.lt
        have O9m := O9m.below hb
        have KZ := KZ.below hb KZ.lt
        have OZ := OZ.below hb
        have HB : Hid (Below w.heap.size w v24) := below3 HB.out hb
        clear hb
        go_wp2_with ((with_reducible show wpList _ _ _ (Oper.mk _ (Op.load 29 _) _ _ _ _ :: _) _ _); refine loadRp (K9) rfl rfl rfl ?_)
        refine (heldReplay_own F _ O9m hm).mono ?_
        rintro e v25 ⟨rfl, hb⟩
        have K0 := K0.below hb K0.lt
        have T0 := T0.below hb T0.lt
        have K6 := K6.below hb K6.lt
        have O5 := O5.below hb
        have K9 := K9.below hb K9.lt
        have O9m := O9m.below hb
        have KZ := KZ.below hb KZ.lt
        have OZ := OZ.below hb
        have HB : Hid (Below w.heap.size w v25) := below3 HB.out hb
        clear hb
        go_wp2_with fail
        go_ret
        exact ⟨rfl, HB.out⟩

noncomputable def laidWorld (os : Os) : World := World.holding Try.prog os ⟨#[], #[], []⟩
theorem laid_met (os : Os) : laidMet Try.prog Rows.fnExactPlaySeedRow.laid ((laidWorld os).forCall (fun _ _ => 0) ⟨#[], #[.agg #[.int .i64 0, .int .i64 0, .int .i64 0, .int .i64 0, .int .i64 0, .int .i64 0, .int .i64 0, .int .i64 0, .int .i64 0, .int .i64 0, .int .i64 0, .int .i64 0, .int .i64 0, .int .i64 0, .int .i64 0, .int .i64 0], .agg #[.int .i64 0, .int .i64 0, .int .i64 0, .int .i64 0], .int .i64 0, .int .i64 0], []⟩).memory := laidMet_of_run' 8 (by kernel_rfl) (by kernel_rfl)
theorem reads (os : Os) {H : Type} (enc : TypeId × Value → H) : ∃ places, DataW.whole enc Try.prog ((laidWorld os).forCall (fun _ _ => 0) ⟨#[], #[.agg #[.int .i64 0, .int .i64 0, .int .i64 0, .int .i64 0, .int .i64 0, .int .i64 0, .int .i64 0, .int .i64 0, .int .i64 0, .int .i64 0, .int .i64 0, .int .i64 0, .int .i64 0, .int .i64 0, .int .i64 0, .int .i64 0], .agg #[.int .i64 0, .int .i64 0, .int .i64 0, .int .i64 0], .int .i64 0, .int .i64 0], []⟩).memory Try.f3.params.toList Rows.fnExactPlaySeedSpec.vars false #[.agg #[.int .i64 0, .int .i64 0, .int .i64 0, .int .i64 0, .int .i64 0, .int .i64 0, .int .i64 0, .int .i64 0, .int .i64 0, .int .i64 0, .int .i64 0, .int .i64 0, .int .i64 0, .int .i64 0, .int .i64 0, .int .i64 0], .agg #[.int .i64 0, .int .i64 0, .int .i64 0, .int .i64 0], .int .i64 0, .int .i64 0].toList 8 = some ([.agg [.agg [.agg [.lit (.int .i64 0), .lit (.int .i64 0), .lit (.int .i64 0), .lit (.int .i64 0)], .agg [.lit (.int .i64 0), .lit (.int .i64 0), .lit (.int .i64 0), .lit (.int .i64 0)], .agg [.lit (.int .i64 0), .lit (.int .i64 0), .lit (.int .i64 0), .lit (.int .i64 0)], .agg [.lit (.int .i64 0), .lit (.int .i64 0), .lit (.int .i64 0), .lit (.int .i64 0)]]], .agg [.lit (.int .i64 0), .lit (.int .i64 0), .lit (.int .i64 0), .lit (.int .i64 0)], .lit (.int .i64 0), .lit (.int .i64 0)], [], places) :=
  ⟨[], by kernel_rfl⟩
set_option linter.unusedVariables false in
set_option maxRecDepth 100000 in
theorem lifted (os : Os) (started : os.Started) (H : Type) (enc : TypeId × Value → H) (F : Stop.Interp) :
    ReturnsInHanded {} Try.checked os 3 .any ((OpenSpec.ofChange Rows.fnExactPlaySeedSpec).preRow enc Try.prog Try.f3 Rows.fnExactPlaySeedRow.domain false Rows.fnExactPlaySeedRow.laid) (((OpenSpec.ofChange Rows.fnExactPlaySeedSpec).at F).post enc Try.prog Try.f3 false true false false) := by
  obtain ⟨places, hx⟩ := reads os enc
  refine returnsInHanded_of_row (C := Try.checked) (s := (OpenSpec.ofChange Rows.fnExactPlaySeedSpec)) own started (by kernel_rfl) Try.func3
    (witness_row_at (enc := enc) (C := Try.checked) false (laidWorld os) #[.agg #[.int .i64 0, .int .i64 0, .int .i64 0, .int .i64 0, .int .i64 0, .int .i64 0, .int .i64 0, .int .i64 0, .int .i64 0, .int .i64 0, .int .i64 0, .int .i64 0, .int .i64 0, .int .i64 0, .int .i64 0, .int .i64 0], .agg #[.int .i64 0, .int .i64 0, .int .i64 0, .int .i64 0], .int .i64 0, .int .i64 0] rfl (by kernel_rfl) (by kernel_rfl) (by kernel_rfl)
      (OpenSpec.preRow_of_cond 8 hx (by kernel_rfl) (fun k hk => by cases hk) (by kernel_rfl) (laid_met os))) ?_
  intro W base args ds gs before hval0 hW _ hcond hsz hL hsh _
  have hval : ∀ (j : Nat) t v, Try.f3.params[j]? = some t → args[j]? = some v → Value.okWide Try.prog W .any base t v := hval0
  have hW' := hW
  obtain ⟨p, q, hA0, hV, rfl, hfz, hnd⟩ := hW
  have hA : DataW.TrodAll enc Try.prog W 0 (fun _ => true) true Try.f3.params.toList args.toList ds p := hA0
  rw [Try.params3] at hA hval
  obtain ⟨v0, vs0, d0, ds0, p0, q0, hargs, rfl, rfl, h0, r0⟩ := trodAll_cons hA
  obtain ⟨v1, vs1, d1, ds1, p1, q1, rfl, rfl, rfl, h1, r1⟩ := trodAll_cons r0
  obtain ⟨v2, vs2, d2, ds2, p2, q2, rfl, rfl, rfl, h2, r2⟩ := trodAll_cons r1
  obtain ⟨v3, vs3, d3, ds3, p3, q3, rfl, rfl, rfl, h3, r3⟩ := trodAll_cons r2
  obtain ⟨rfl, rfl, rfl⟩ := trodAll_nil r3
  obtain rfl : args = #[v0, v1, v2, v3] := by cases args; simp_all
  obtain ⟨rfl, rfl⟩ := trodVars_none hV
  obtain ⟨a0, rfl, w0⟩ := open_board_at Try.underlying25 rfl rfl Try.underlying23 Try.underlying22 Try.underlying3 cellsK cellsG cellsR cellsI (hval 0 25 v0 rfl rfl) h0
  have k0 := h0
  have lt0 : ∀ x ∈ p0, x.block < W.heap.size := by obtain ⟨m, hm⟩ := k0; exact DataW.trod_lt m _ _ _ hm
  obtain ⟨a1, rfl, w1⟩ := open_ints_at Try.underlying22 Try.underlying3 cellsR cellsI (hval 1 22 v1 rfl rfl) h1
  have k1 := h1
  have lt1 : ∀ x ∈ p1, x.block < W.heap.size := by obtain ⟨m, hm⟩ := k1; exact DataW.trod_lt m _ _ _ hm
  obtain ⟨a2, rfl, rfl, rfl, w2⟩ := open_int Try.underlying3 (hval 2 3 v2 rfl rfl) h2
  obtain ⟨a3, rfl, rfl, rfl, w3⟩ := open_int Try.underlying3 (hval 3 3 v3 rfl rfl) h3
  clear hA0 hval0
  have hwalk : Calls Try.prog 3 #[.agg (mk 16 a0), .agg (mk 4 a1), .int .i64 a2, .int .i64 a3] W fun e w' => e = .returned (.bool true) ∧ Below W.heap.size W w' := walk a0 w0 a1 w1 a2 w2 a3 w3 W hsh
  refine hwalk.mono fun e W' ⟨he, bel⟩ => ?_
  subst he
  exact ⟨_, rfl, _, _, _, [], _, [], hW', trodAll_mk1 (shut_bool Try.underlying4 _), (trodAll_cons_mk (Below.trod laidOut (by kernel_rfl) (of_decide_eq_true (by kernel_rfl)) k0 bel lt0) (trodAll_cons_mk (Below.trod laidOut (by kernel_rfl) (of_decide_eq_true (by kernel_rfl)) k1 bel lt1) (trodAll_cons_mk (shut_int Try.underlying3 w2) (trodAll_cons_mk (shut_int Try.underlying3 w3) trodAll_mk0)))), rfl, bel.frame _, fun h => by cases h⟩
set_option maxHeartbeats 8000000 in
theorem closed : joinedFacts Try.pinned.checked.prog 3 Try.f3 ((OpenSpec.ofChange Rows.fnExactPlaySeedSpec)).bare Rows.fnExactPlaySeedRow = true := by
  unfold joinedFacts
  repeat' with_reducible refine and_mk ?_ ?_
  case refine_1.refine_1.refine_1.refine_1.refine_1.refine_1.refine_2 => exact enters
  case refine_1.refine_1.refine_1.refine_1.refine_1.refine_2 => exact (show (Rows.fnExactPlaySeedRow.lifted == Try.prog.liftsFinal) = true by rw [final_no]; rfl)
  case refine_1.refine_1.refine_1.refine_1.refine_2 => exact (show (Try.prog.make == some Rows.fnExactPlaySeedRow.make) = true by rw [make_cut]; rfl)
  case refine_1.refine_1.refine_1.refine_1.refine_1.refine_1.refine_1.refine_1.refine_1.refine_1.refine_1.refine_1.refine_1.refine_1.refine_1.refine_1.refine_1.refine_1.refine_1.refine_1.refine_1.refine_1.refine_1.refine_1.refine_1.refine_1.refine_1.refine_1.refine_1.refine_1.refine_2 => exact laidOut
  case refine_1.refine_1.refine_1.refine_1.refine_1.refine_1.refine_1.refine_1.refine_1.refine_1.refine_1.refine_1.refine_1.refine_1.refine_1.refine_1.refine_1.refine_1.refine_1.refine_1.refine_1.refine_1.refine_1.refine_1.refine_1.refine_1.refine_1.refine_1.refine_1.refine_2 => exact maps_rowed
  case refine_1.refine_1.refine_1.refine_1.refine_1.refine_1.refine_1.refine_2 => exact stops_heard
  all_goals (as_aux_lemma => kernel_rfl)
theorem proved : Rows.FnExactPlaySeedSaid :=
  OpenClaim.holds_of_cond 3 Try.f3 rfl rfl rfl rfl rfl rfl rfl ⟨rfl, rfl, rfl, rfl, rfl⟩ rfl rfl rfl rfl rfl (by kernel_rfl) Try.func3 closed
    (of_decide_eq_true (by kernel_rfl)) (by unfold Func.isWrapper; first | (rw [if_pos (by decide +kernel)]; kernel_rfl) | (rw [if_neg (by decide +kernel)]; exact ⟨rfl, rfl⟩))
    (fun os started H enc _ F => by rw [OpenClaim.pre_eq_preRow]; exact lifted os started H enc F)
#print axioms proved
end Go.Proofs.Ytfjpdopljmilpaa.fnExactPlaySeed
