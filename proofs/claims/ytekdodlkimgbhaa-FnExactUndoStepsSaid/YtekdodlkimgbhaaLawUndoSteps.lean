/-
  Proved: for every replay and every number, the law FnExactUndoSteps returns true, and both read as they did. No condition.
-/
import Derived.Test.YtekdodlkimgbhaaUndoTop
import Derived.Test.YtekdodlkimgbhaaRepOwn
import Derived.Test.YtekdodlkimgbhaaBaseA
import Derived.Test.YtekdodlkimgbhaaClosed
import Derived.Test.YtekdodlkimgbhaaCommonTop
namespace Go.Proofs.Ytekdodlkimgbhaa.fnExactUndoSteps
open Go.ChangeShapes Go.WideShapes Go.ChangeAt Go.RowKit Plain
attribute [local go_sem] store_new store_newR
set_option linter.unusedVariables false
set_option linter.unusedSimpArgs false
theorem below3 {w a b : World} (h : Below w.heap.size w a) (k : Below a.heap.size a b) : Below w.heap.size w b := h.trans (k.mono h.size)
theorem rp_grown {w w' : World} {b : Nat} {f : Nat → Int} {v : Value} {t : TypeId} {r : Option Nat} (h : Rp w b f v t) (hg : w.grownBy w' r) (hne : r ≠ some b) : Rp w' b f v t := by
  obtain ⟨_, _, _, _, hk⟩ := hg
  exact (hk b h.lt (fun e => hne e.symm)).trans h
theorem blk_grown {w w' : World} {b n : Nat} {f : Nat → Int} {t : TypeId} {r : Option Nat} (h : Blk w b n f t) (hg : w.grownBy w' r) (hne : r ≠ some b) : Blk w' b n f t := by
  obtain ⟨_, _, _, _, hk⟩ := hg
  exact (hk b h.lt (fun e => hne e.symm)).trans h
theorem own_grown {w w' : World} {base m : Nat} {v : Value} {H : Nat → Int} {r : Option Nat} (h : OwnT w base v m H) (hg : w.grownBy w' r) (hne : ∀ k, r = some k → v.ownBlock ≠ some k) : OwnT w' base v m H := by
  cases hr : r with
  | none =>
    subst hr
    by_cases q : v.ownBlock = Option.none
    · exact World.ownsRow.kept h hg (Or.inl q)
    · exact World.ownsRow.kept h hg (Or.inr q)
  | some k => subst hr; exact World.ownsRow.kept h hg (Or.inr (hne k rfl))
set_option maxHeartbeats 8000000 in
set_option maxRecDepth 20000 in
theorem walk (w : World) (_ : w.ShapedOpen Try.prog) (a0 : Nat → Int) (s0 : Option Addr) (len0 cap0 : Nat) (hz : IsSteps w s0 len0 cap0) (a1 : Int) (_ : (Lit.int .i64 a1).wf = true) :
    Calls Try.prog 7 #[.agg (rpl a0 (.slice s0 len0 cap0)), .int .i64 a1] w fun e w' => e = .returned (.bool true) ∧ Below w.heap.size w w' := by
  have K0 := Rp.new w a0 (.slice s0 len0 cap0) 28
  have HB : Hid (Below w.heap.size w (w.alloc (.cells (rpl a0 (.slice s0 len0 cap0)) 28))) := (Below.refl w.heap.size w).alloc (Nat.le_refl _) _
  have z16 := zero16
  have z17 := zeroRp
  have z4 := zero4
  obtain ⟨h, hzr⟩ := hz.srow
  have HZ := Lib.hid hzr
  have hll := hz.len_le
  clear hzr hz
  have HSZ := Lib.hid (fun W => szReplay_any a0 s0 len0 cap0 1048576 W hll (by decide) (Int.le_refl _))
  have HSP : ∀ W v, KRow 4 W v len0 h → len0 ≤ 1048576 → Calls Try.prog 30 #[.agg (rpl a0 v), .int .i64 a1] W fun e w' => ∃ a c, e = .returned (.tuple #[.agg (rpl (undF a0 h len0 a1) (.slice a (undN a0 h len0 a1) c)), .bool (decide (undOk a0 h len0 a1))]) ∧ OwnT w' W.heap.size (.slice a (undN a0 h len0 a1) c) (undN a0 h len0 a1) (h) ∧ Below W.heap.size W w' := fun W v q hn => specUndo_any a0 v len0 h a1 W q hn
  have HIM : ∀ W v, KRow 4 W v len0 h → len0 ≤ 1048576 → Calls Try.prog 31 #[.agg (rpl a0 v), .int .i64 a1] W fun e w' => ∃ a c, e = .returned (.tuple #[.agg (rpl (undF a0 h len0 a1) (.slice a (undN a0 h len0 a1) c)), .bool (decide (undOk a0 h len0 a1))]) ∧ OwnT w' W.heap.size (.slice a (undN a0 h len0 a1) c) (undN a0 h len0 a1) (h) ∧ Below W.heap.size W w' := fun W v q hn => implUndo_any a0 v len0 h a1 W q hn
  have HML := Lib.hid (fun (q : len0 ≤ 1048576) => (show undN a0 h len0 a1 ≤ 1048576 by unfold undN; split <;> omega))
  generalize undN a0 h len0 a1 = m at *
  generalize undF a0 h len0 a1 = F at *
  generalize decide (undOk a0 h len0 a1) = O at *
  have HSP := Lib.hid HSP
  have HIM := Lib.hid HIM
  go_enter Try.func7, Try.ntmps7
  go_wp2_with ((with_reducible show wpList _ _ _ (Oper.mk _ (Op.load 28 _) _ _ _ _ :: _) _ _); refine loadRl (K0) rfl rfl rfl ?_)
  refine (HSZ.out _).mono ?_
  rintro e w1 ⟨⟨q, rfl, hq⟩, hb⟩
  have HM := Lib.hid hq
  clear hq HSZ
  have K0 := K0.below hb K0.lt
  have HB : Hid (Below w.heap.size w w1) := below3 HB.out hb
  clear hb
  by_cases hm0 : q < 0
  · go_wp2_with fail
    go_ret
    exact ⟨rfl, HB.out⟩
  · have HN := Lib.hid (HM.out (by omega)).1
    have hm := HML.out HN.out
    have n1 : ¬ (q < 0) := hm0
    clear HM HML
    go_wp2_with ((with_reducible show wpList _ _ _ (Oper.mk _ (Op.load 28 _) _ _ _ _ :: _) _ _); refine loadRl (K0) rfl rfl rfl ?_)
    refine (toReplay_any a0 _ len0 h _ (HZ.out.below HB.out) HN.out).mono ?_
    rintro e w2 ⟨g1, rfl, r1, hge, hb⟩
    have K0 := K0.below hb K0.lt
    have HB : Hid (Below w.heap.size w w2) := below3 HB.out hb
    have CG := r1.at
    clear hb r1 hge
    go_wp2_with fail
    have hK05 := K0.lt
    refine (HSP.out _ _ ⟨_, _, rfl, Nat.le_refl _, CG⟩ HN.out).mono ?_
    rintro e w3 ⟨a5, c5, rfl, ho, hb⟩
    have hss5 : w2.heap.size ≤ w3.heap.size := hb.size
    have K0 := K0.below hb K0.lt
    have HB : Hid (Below w.heap.size w w3) := below3 HB.out hb
    have O5 : OwnT w3 w2.heap.size (.slice a5 m c5) m h := ho
    have hO5b := fun k e => (O5.lt k e).2
    clear hb ho
    generalize hs5 : w2.heap.size = s5 at *
    have K0 := K0.alloc (.cells (rpl F (.slice a5 m c5)) 34)
    have O5 := O5.alloc (.cells (rpl F (.slice a5 m c5)) 34)
    have HB : Hid (Below w.heap.size w (w3.alloc (.cells (rpl F (.slice a5 m c5)) 34))) := HB.out.alloc HB.out.size _
    have K6 := Rp.new w3 F (.slice a5 m c5) 34
    generalize hb6 : w3.heap.size = b6 at *
    clear hs5
    have H6 : Hid (s5 ≤ b6) := hss5
    have H5B : Hid (∀ k, (Value.slice a5 m c5).ownBlock = some k → k < b6) := hO5b
    clear hO5b
    clear hss5 CG
    have H60 : Hid (w.heap.size < s5) := by
      show _ < _
      have := hK05
      omega
    clear hK05
    have hb6 := K6.lt
    go_wp2_with ((with_reducible show wpList _ _ _ (Oper.mk _ (Op.load 28 _) _ _ _ _ :: _) _ _); refine loadRl (K0) rfl rfl rfl ?_)
    refine (toReplay_any a0 _ len0 h _ (HZ.out.below HB.out) HN.out).mono ?_
    rintro e w4 ⟨gx, rfl, r1, hge, hb⟩
    have K0 := K0.below hb K0.lt
    have O5 := O5.below hb
    have K6 := K6.below hb K6.lt
    have HB : Hid (Below w.heap.size w w4) := below3 HB.out hb
    have HX6 : Hid (b6 < gx) := by show _ < _; omega
    have BX : Blk w4 gx (len0 * 4) h 49 := r1
    clear hb r1 hge hb6
    have hgx := BX.lt
    have K0 := K0.alloc (.cells (rpl a0 (.slice (some ⟨gx, 0, none⟩) len0 len0)) 34)
    have O5 := O5.alloc (.cells (rpl a0 (.slice (some ⟨gx, 0, none⟩) len0 len0)) 34)
    have K6 := K6.alloc (.cells (rpl a0 (.slice (some ⟨gx, 0, none⟩) len0 len0)) 34)
    have BX := BX.alloc (.cells (rpl a0 (.slice (some ⟨gx, 0, none⟩) len0 len0)) 34)
    have HB : Hid (Below w.heap.size w (w4.alloc (.cells (rpl a0 (.slice (some ⟨gx, 0, none⟩) len0 len0)) 34))) := HB.out.alloc HB.out.size _
    have KX := Rp.new w4 a0 (.slice (some ⟨gx, 0, none⟩) len0 len0) 34
    generalize hbx : w4.heap.size = bx at *
    have HXX : Hid (gx < bx) := hgx
    clear hgx
    go_wp2_with ((with_reducible show wpList _ _ _ (Oper.mk _ (Op.load 34 _) _ _ _ _ :: _) _ _); refine loadRp (KX) rfl rfl rfl ?_)
    have hKX := KX.lt
    clear hbx
    generalize (w4.alloc (.cells (rpl a0 (.slice (some ⟨gx, 0, none⟩) len0 len0)) 34)) = wa at *
    refine (HIM.out _ _ ⟨_, _, rfl, Nat.le_refl _, BX.at⟩ HN.out).mono ?_
    rintro e w5 ⟨a9, c9, rfl, ho, hb⟩
    have hss9 : wa.heap.size ≤ w5.heap.size := hb.size
    have K0 := K0.below hb K0.lt
    have O5 := O5.below hb
    have K6 := K6.below hb K6.lt
    have BX := BX.below hb BX.lt
    have KX := KX.below hb KX.lt
    have HB : Hid (Below w.heap.size w w5) := below3 HB.out hb
    have O9 : OwnT w5 wa.heap.size (.slice a9 m c9) m h := ho
    have hO9b := fun k e => (O9.lt k e).2
    clear hb ho
    generalize hs9 : wa.heap.size = s9 at *
    have K0 := K0.alloc (.cells (rpl F (.slice a9 m c9)) 34)
    have O5 := O5.alloc (.cells (rpl F (.slice a9 m c9)) 34)
    have K6 := K6.alloc (.cells (rpl F (.slice a9 m c9)) 34)
    have BX := BX.alloc (.cells (rpl F (.slice a9 m c9)) 34)
    have KX := KX.alloc (.cells (rpl F (.slice a9 m c9)) 34)
    have O9 := O9.alloc (.cells (rpl F (.slice a9 m c9)) 34)
    have HB : Hid (Below w.heap.size w (w5.alloc (.cells (rpl F (.slice a9 m c9)) 34))) := HB.out.alloc HB.out.size _
    have K9 := Rp.new w5 F (.slice a9 m c9) 34
    generalize hb9 : w5.heap.size = b9 at *
    clear hs9
    have H9 : Hid (bx < s9 ∧ s9 ≤ b9) := ⟨hKX, hss9⟩
    have H9B : Hid (∀ k, (Value.slice a9 m c9).ownBlock = some k → some k = some b9 → False) := fun k e q => by have := hO9b k e; have q := Option.some.inj q; omega
    clear hO9b
    clear hKX hss9
    go_wp2_with (first | ((with_reducible show wpList _ _ _ (Oper.mk _ (Op.load 34 _) _ _ _ _ :: _) _ _); refine loadRp (K9) rfl rfl rfl ?_) | ((with_reducible show wpList _ _ _ (Oper.mk _ (Op.load 34 _) _ _ _ _ :: _) _ _); refine loadRp (K6) rfl rfl rfl ?_))
    generalize (w5.alloc (.cells (rpl F (.slice a9 m c9)) 34)) = wb at *
    clear hb9
    refine (eqReplay_own F _ O9 O5 hm).mono ?_
    rintro e w6 ⟨rfl, hb⟩
    have K0 := K0.below hb K0.lt
    have O5 := O5.below hb
    have K6 := K6.below hb K6.lt
    have BX := BX.below hb BX.lt
    have KX := KX.below hb KX.lt
    have O9 := O9.below hb
    have K9 := K9.below hb K9.lt
    have HB : Hid (Below w.heap.size w w6) := below3 HB.out hb
    clear hb
    go_wp2_with fail
    refine wp_region_held_drew (S := fun W => Rp W w.heap.size a0 (.slice s0 len0 cap0) 28 ∧ Rp W bx a0 (.slice (some ⟨gx, 0, none⟩) len0 len0) 34) (by kernel_rfl) (⟨K0.drew, KX.drew⟩) (fun hHeld => ?_)
    have K0 : Rp w6.drew w.heap.size a0 (.slice s0 len0 cap0) 28 := K0.drew
    have O5 : OwnT w6.drew s5 (.slice a5 m c5) m h := O5.drew
    have K6 : Rp w6.drew b6 F (.slice a5 m c5) 34 := K6.drew
    have BX : Blk w6.drew gx (len0 * 4) h 49 := BX.drew
    have KX : Rp w6.drew bx a0 (.slice (some ⟨gx, 0, none⟩) len0 len0) 34 := KX.drew
    have O9 : OwnT w6.drew s9 (.slice a9 m c9) m h := O9.drew
    have K9 : Rp w6.drew b9 F (.slice a9 m c9) 34 := K9.drew
    have HB : Hid (Below w.heap.size w w6.drew) := HB.out.drew
    generalize w6.drew = x0 at *
    refine wpAnyH_take (i := 0) (oi := { dst := some 45, op := _, type := _, pos := _, after := _, guard := _ }) (v := .agg (rpl a0 (.slice (some ⟨gx, 0, none⟩) len0 len0))) rfl (by kernel_rfl) (by kernel_rfl) (by kernel_rfl) (fun _ _ _ h => h) (Or.inl ⟨by rfl, fun _ q => execRp q.2 rfl rfl⟩) (by assumption) ?_
    try simp only [Act.put, List.setIfInBounds_toArray, List.set_cons_zero, List.set_cons_succ]
    refine wpAnyH_take (i := 1) (oi := { dst := some 46, op := _, type := _, pos := _, after := _, guard := _ }) (v := .agg (rpl a0 (.slice s0 len0 cap0))) rfl (by kernel_rfl) (by kernel_rfl) (by kernel_rfl) (fun _ _ _ h => h) (Or.inl ⟨by rfl, fun _ q => execRl q.1 rfl rfl⟩) (by assumption) ?_
    try simp only [Act.put, List.setIfInBounds_toArray, List.set_cons_zero, List.set_cons_succ]
    refine wpAnyH_ready (rs := [2]) (by kernel_rfl) (by simp) ?_
    refine AllReadyH.cons rfl (fun K hK => ?_) AllReadyH.nil
    go_simp
    refine (toReplay_any a0 _ len0 h _ (HZ.out.below HB.out) HN.out).mono ?_
    rintro e x1 ⟨gy, rfl, ry, _, hb⟩
    have K0 := K0.below hb K0.lt
    have O5 := O5.below hb
    have K6 := K6.below hb K6.lt
    have BX := BX.below hb BX.lt
    have KX := KX.below hb KX.lt
    have O9 := O9.below hb
    have K9 := K9.below hb K9.lt
    have HB : Hid (Below w.heap.size w x1) := below3 HB.out hb
    have CY := ry.at
    clear hb hHeld ry
    go_wp2_with fail
    refine hK.out _ _ ⟨K0, KX⟩ (fun hHeld => ?_)
    clear hK K
    try simp only [Act.put, List.setIfInBounds_toArray, List.set_cons_zero, List.set_cons_succ]
    refine wpAnyH_ready (rs := [3]) (by kernel_rfl) (by simp) ?_
    refine AllReadyH.cons rfl (fun K hK => ?_) AllReadyH.nil
    go_simp
    refine (eqReplay_yes a0 _ _ len0 h _ ⟨_, _, rfl, Nat.le_refl _, BX.at⟩ ⟨_, _, rfl, Nat.le_refl _, CY⟩ HN.out).mono ?_
    rintro e x2 ⟨rfl, hb⟩
    have K0 := K0.below hb K0.lt
    have O5 := O5.below hb
    have K6 := K6.below hb K6.lt
    have BX := BX.below hb BX.lt
    have KX := KX.below hb KX.lt
    have O9 := O9.below hb
    have K9 := K9.below hb K9.lt
    have HB : Hid (Below w.heap.size w x2) := below3 HB.out hb
    clear hb hHeld CY
    go_wp2_with fail
    refine hK.out _ _ ⟨K0, KX⟩ (fun hHeld => ?_)
    clear hK K
    try simp only [Act.put, List.setIfInBounds_toArray, List.set_cons_zero, List.set_cons_succ]
    refine wpAnyH_take (i := 4) (oi := { dst := some 49, op := _, type := _, pos := _, after := _, guard := _ }) (v := .bool false) rfl (by kernel_rfl) (by kernel_rfl) (by kernel_rfl) (fun _ _ _ h => h) (Or.inl ⟨by rfl, by intro w hSw; clear hSw; go_simp; (try with_reducible rfl)⟩) (by assumption) ?_
    try simp only [Act.put, List.setIfInBounds_toArray, List.set_cons_zero, List.set_cons_succ]
    refine wpAnyH_done (by kernel_rfl) ?_ _
    clear hHeld
    go_wp2_with ((with_reducible show wpList _ _ _ (Oper.mk _ (Op.load 34 _) _ _ _ _ :: _) _ _); refine loadRp (KX) rfl rfl rfl ?_)
    refine (markReplay_own a0 _ (OwnT.of_blk (base := 0) BX (Nat.zero_le _) (by have := HN.out; unfold maxLen; omega)) HN.out).mono ?_
    rintro e w7 ⟨rfl, ho, hg⟩
    have hgx : w.heap.size < gx ∧ b6 < gx ∧ gx < b9 ∧ gx < s9 := by have := H60.out; have := H6.out; have := HX6.out; have := HXX.out; have := H9.out; omega
    have h5 := O5.lt
    have h9 := O9.lt
    have h60 := H6.out
    have K0 := rp_grown K0 hg (fun e => by have e : gx = w.heap.size := Option.some.inj e; omega)
    have K6 := rp_grown K6 hg (fun e => by have e : gx = b6 := Option.some.inj e; omega)
    have K9 := rp_grown K9 hg (fun e => by have e : gx = b9 := Option.some.inj e; omega)
    have O5 := own_grown O5 hg (fun k hk e => by have hk : gx = k := Option.some.inj hk; have q := H5B.out k e; omega)
    have O9 := own_grown O9 hg (fun k hk e => by have hk : gx = k := Option.some.inj hk; have := h9 k e; omega)
    have HB : Hid (Below w.heap.size w w7) := HB.out.grown hg HB.out.size (fun k hk => by have hk : gx = k := Option.some.inj hk; omega)
    clear ho hg hgx h5 h9 h60 KX BX
    have n2 : ¬ (((1 + len0 * 4 : Nat) : Int) < 0) := by omega
    go_wp2_with (first | ((with_reducible show wpList _ _ _ (Oper.mk _ (Op.load 34 _) _ _ _ (some _) :: _) _ _); refine loadRpg (K9) rfl rfl rfl ?_) | ((with_reducible show wpList _ _ _ (Oper.mk _ (Op.load 34 _) _ _ _ (some _) :: _) _ _); refine loadRpg (K6) rfl rfl rfl ?_))
    refine (eqReplay_own F _ O9 O5 hm).mono ?_
    rintro e w8 ⟨rfl, hb⟩
    have K0 := K0.below hb K0.lt
    have O5 := O5.below hb
    have K6 := K6.below hb K6.lt
    have O9 := O9.below hb
    have K9 := K9.below hb K9.lt
    have HB : Hid (Below w.heap.size w w8) := below3 HB.out hb
    clear hb
    go_wp2_with ((with_reducible show wpList _ _ _ (Oper.mk _ (Op.load 34 _) _ _ _ _ :: _) _ _); refine loadRp (K9) rfl rfl rfl ?_)
    refine (markReplay_own F _ O9 hm).mono ?_
    rintro e w9 ⟨rfl, ho, hg⟩
    have h9 := O9.lt
    have hn9 : w.heap.size < s9 ∧ b6 < s9 := by have := H60.out; have := H6.out; have := HX6.out; have := HXX.out; have := H9.out; omega
    have K0 := rp_grown K0 hg (fun e => by have := (h9 _ e).1; omega)
    have K6 := rp_grown K6 hg (fun e => by have := (h9 _ e).1; omega)
    have K9 := rp_grown K9 hg (fun e => H9B.out _ e rfl)
    have O5 := own_grown O5 hg (fun k hk e => by have := (h9 k hk).1; have := H5B.out k e; omega)
    have HB : Hid (Below w.heap.size w w9) := HB.out.grown hg HB.out.size (fun k hk => by have := (h9 k hk).1; omega)
    have O9m : OwnT w9 s9 (.slice a9 m c9) m (fun j => ((1 + j : Nat) : Int)) := ho
    clear ho hg h9 hn9 O9
    have n3 : ¬ (((1 + m * 4 : Nat) : Int) < 0) := by omega
    go_wp2_with ((with_reducible show wpList _ _ _ (Oper.mk _ (Op.load 34 _) _ _ _ _ :: _) _ _); refine loadRp (K9) rfl rfl rfl ?_)
    refine (heldReplay_own F _ O9m hm).mono ?_
    rintro e w10 ⟨rfl, hb⟩
    have K0 := K0.below hb K0.lt
    have O5 := O5.below hb
    have K6 := K6.below hb K6.lt
    have K9 := K9.below hb K9.lt
    have O9m := O9m.below hb
    have HB : Hid (Below w.heap.size w w10) := below3 HB.out hb
    clear hb
    go_wp2_with ((with_reducible show wpList _ _ _ (Oper.mk _ (Op.load 28 _) _ _ _ _ :: _) _ _); refine loadRl (K0) rfl rfl rfl ?_)
    refine (toReplay_any a0 _ len0 h _ (HZ.out.below HB.out) HN.out).mono ?_
    rintro e w11 ⟨g7, rfl, r1, hge, hb⟩
    have K0 := K0.below hb K0.lt
    have O5 := O5.below hb
    have K6 := K6.below hb K6.lt
    have K9 := K9.below hb K9.lt
    have O9m := O9m.below hb
    have HB : Hid (Below w.heap.size w w11) := below3 HB.out hb
    have CG := r1.at
    clear hb r1 hge
    go_wp2_with fail
    refine (HIM.out _ _ ⟨_, _, rfl, Nat.le_refl _, CG⟩ HN.out).mono ?_
    rintro e w12 ⟨a7, c7, rfl, ho, hb⟩
    have hss7 : w11.heap.size ≤ w12.heap.size := hb.size
    have K0 := K0.below hb K0.lt
    have O5 := O5.below hb
    have K6 := K6.below hb K6.lt
    have K9 := K9.below hb K9.lt
    have O9m := O9m.below hb
    have HB : Hid (Below w.heap.size w w12) := below3 HB.out hb
    have OZ : OwnT w12 w11.heap.size (.slice a7 m c7) m h := ho
    clear hb ho
    generalize hs7 : w11.heap.size = s7 at *
    have K0 := K0.alloc (.cells (rpl F (.slice a7 m c7)) 34)
    have O5 := O5.alloc (.cells (rpl F (.slice a7 m c7)) 34)
    have K6 := K6.alloc (.cells (rpl F (.slice a7 m c7)) 34)
    have K9 := K9.alloc (.cells (rpl F (.slice a7 m c7)) 34)
    have O9m := O9m.alloc (.cells (rpl F (.slice a7 m c7)) 34)
    have OZ := OZ.alloc (.cells (rpl F (.slice a7 m c7)) 34)
    have HB : Hid (Below w.heap.size w (w12.alloc (.cells (rpl F (.slice a7 m c7)) 34))) := HB.out.alloc HB.out.size _
    have KZ := Rp.new w12 F (.slice a7 m c7) 34
    generalize hb7 : w12.heap.size = b7 at *
    clear hs7
    clear hss7 CG
    go_wp2_with (first | ((with_reducible show wpList _ _ _ (Oper.mk _ (Op.load 34 _) _ _ _ _ :: _) _ _); refine loadRp (KZ) rfl rfl rfl ?_) | ((with_reducible show wpList _ _ _ (Oper.mk _ (Op.load 34 _) _ _ _ _ :: _) _ _); refine loadRp (K6) rfl rfl rfl ?_))
    generalize (w12.alloc (.cells (rpl F (.slice a7 m c7)) 34)) = wc at *
    clear hb7
    refine (eqReplay_own F _ OZ O5 hm).mono ?_
    rintro e w13 ⟨rfl, hb⟩
    have K0 := K0.below hb K0.lt
    have O5 := O5.below hb
    have K6 := K6.below hb K6.lt
    have K9 := K9.below hb K9.lt
    have O9m := O9m.below hb
    have OZ := OZ.below hb
    have KZ := KZ.below hb KZ.lt
    have HB : Hid (Below w.heap.size w w13) := below3 HB.out hb
    clear hb
    go_wp2_with ((with_reducible show wpList _ _ _ (Oper.mk _ (Op.load 34 _) _ _ _ _ :: _) _ _); refine loadRp (K9) rfl rfl rfl ?_)
    refine (heldReplay_own F _ O9m hm).mono ?_
    rintro e w14 ⟨rfl, hb⟩
    have K0 := K0.below hb K0.lt
    have O5 := O5.below hb
    have K6 := K6.below hb K6.lt
    have K9 := K9.below hb K9.lt
    have O9m := O9m.below hb
    have OZ := OZ.below hb
    have KZ := KZ.below hb KZ.lt
    have HB : Hid (Below w.heap.size w w14) := below3 HB.out hb
    clear hb
    go_wp2_with fail
    go_ret
    exact ⟨rfl, HB.out⟩

noncomputable def laidWorld (os : Os) : World := World.holding Try.prog os ⟨#[], #[], []⟩
theorem laid_met (os : Os) : laidMet Try.prog Rows.fnExactUndoStepsRow.laid ((laidWorld os).forCall (fun _ _ => 0) ⟨#[], #[.agg #[.int .i64 0, .int .i64 0, .int .i64 0, .int .i64 0, .int .i64 0, .int .i64 0, .int .i64 0, .int .i64 0, .int .i64 0, .int .i64 0, .int .i64 0, .int .i64 0, .int .i64 0, .int .i64 0, .int .i64 0, .int .i64 0, .slice none 0 0], .int .i64 0], []⟩).memory := laidMet_of_run' 8 (by kernel_rfl) (by kernel_rfl)
theorem reads (os : Os) {H : Type} (enc : TypeId × Value → H) : ∃ places, DataW.whole enc Try.prog ((laidWorld os).forCall (fun _ _ => 0) ⟨#[], #[.agg #[.int .i64 0, .int .i64 0, .int .i64 0, .int .i64 0, .int .i64 0, .int .i64 0, .int .i64 0, .int .i64 0, .int .i64 0, .int .i64 0, .int .i64 0, .int .i64 0, .int .i64 0, .int .i64 0, .int .i64 0, .int .i64 0, .slice none 0 0], .int .i64 0], []⟩).memory Try.f7.params.toList Rows.fnExactUndoStepsSpec.vars false #[.agg #[.int .i64 0, .int .i64 0, .int .i64 0, .int .i64 0, .int .i64 0, .int .i64 0, .int .i64 0, .int .i64 0, .int .i64 0, .int .i64 0, .int .i64 0, .int .i64 0, .int .i64 0, .int .i64 0, .int .i64 0, .int .i64 0, .slice none 0 0], .int .i64 0].toList 8 = some ([.agg [.agg [.agg [.agg [.lit (.int .i64 0), .lit (.int .i64 0), .lit (.int .i64 0), .lit (.int .i64 0)], .agg [.lit (.int .i64 0), .lit (.int .i64 0), .lit (.int .i64 0), .lit (.int .i64 0)], .agg [.lit (.int .i64 0), .lit (.int .i64 0), .lit (.int .i64 0), .lit (.int .i64 0)], .agg [.lit (.int .i64 0), .lit (.int .i64 0), .lit (.int .i64 0), .lit (.int .i64 0)]]], .nil], .lit (.int .i64 0)], [], places) :=
  ⟨[], by kernel_rfl⟩
set_option linter.unusedVariables false in
set_option maxRecDepth 100000 in
theorem lifted (os : Os) (started : os.Started) (H : Type) (enc : TypeId × Value → H) (F : Stop.Interp) :
    ReturnsInHanded {} Try.checked os 7 .any ((OpenSpec.ofChange Rows.fnExactUndoStepsSpec).preRow enc Try.prog Try.f7 Rows.fnExactUndoStepsRow.domain false Rows.fnExactUndoStepsRow.laid) (((OpenSpec.ofChange Rows.fnExactUndoStepsSpec).at F).post enc Try.prog Try.f7 false true false false) := by
  obtain ⟨places, hx⟩ := reads os enc
  refine returnsInHanded_of_row (C := Try.checked) (s := (OpenSpec.ofChange Rows.fnExactUndoStepsSpec)) own started (by kernel_rfl) Try.func7
    (witness_row_at (enc := enc) (C := Try.checked) false (laidWorld os) #[.agg #[.int .i64 0, .int .i64 0, .int .i64 0, .int .i64 0, .int .i64 0, .int .i64 0, .int .i64 0, .int .i64 0, .int .i64 0, .int .i64 0, .int .i64 0, .int .i64 0, .int .i64 0, .int .i64 0, .int .i64 0, .int .i64 0, .slice none 0 0], .int .i64 0] rfl (by kernel_rfl) (by kernel_rfl) (by kernel_rfl)
      (OpenSpec.preRow_of_cond 8 hx (by kernel_rfl) (fun k hk => by cases hk) (by kernel_rfl) (laid_met os))) ?_
  intro W base args ds gs before hval0 hW _ hcond hsz hL hsh _
  have hval : ∀ (j : Nat) t v, Try.f7.params[j]? = some t → args[j]? = some v → Value.okWide Try.prog W .any base t v := hval0
  have hW' := hW
  obtain ⟨p, q, hA0, hV, rfl, hfz, hnd⟩ := hW
  have hA : DataW.TrodAll enc Try.prog W 0 (fun _ => true) true Try.f7.params.toList args.toList ds p := hA0
  rw [Try.params7] at hA hval
  obtain ⟨v0, vs0, d0, ds0, p0, q0, hargs, rfl, rfl, h0, r0⟩ := trodAll_cons hA
  obtain ⟨v1, vs1, d1, ds1, p1, q1, rfl, rfl, rfl, h1, r1⟩ := trodAll_cons r0
  obtain ⟨rfl, rfl, rfl⟩ := trodAll_nil r1
  obtain rfl : args = #[v0, v1] := by cases args; simp_all
  obtain ⟨rfl, rfl⟩ := trodVars_none hV
  obtain ⟨a0, s0, len0, cap0, rfl, w0⟩ := open_replay Try.underlying28 rfl rfl rfl rfl Try.underlying25 rfl rfl Try.underlying23 Try.underlying22 Try.underlying3 Try.underlying26 Try.underlying46 rfl rfl rfl rfl rfl rfl Try.underlying44 cellsRl cellsK (by kernel_rfl) cellsG cellsR cellsI cellsU cellsC (hval 0 28 v0 rfl rfl) h0
  have k0 := h0
  have lt0 : ∀ x ∈ p0, x.block < W.heap.size := by obtain ⟨m, hm⟩ := k0; exact DataW.trod_lt m _ _ _ hm
  obtain ⟨a1, rfl, rfl, rfl, w1⟩ := open_int Try.underlying3 (hval 1 3 v1 rfl rfl) h1
  clear hA0 hval0
  have hwalk : Calls Try.prog 7 #[.agg (rpl a0 (.slice s0 len0 cap0)), .int .i64 a1] W fun e w' => e = .returned (.bool true) ∧ Below W.heap.size W w' := walk W hsh a0 s0 len0 cap0 w0 a1 w1
  refine hwalk.mono fun e W' ⟨he, bel⟩ => ?_
  subst he
  exact ⟨_, rfl, _, _, _, [], _, [], hW', trodAll_mk1 (shut_bool Try.underlying4 _), (trodAll_cons_mk (Below.trod laidOut (by kernel_rfl) (of_decide_eq_true (by kernel_rfl)) k0 bel lt0) (trodAll_cons_mk (shut_int Try.underlying3 w1) trodAll_mk0)), rfl, bel.frame _, fun h => by cases h⟩
set_option maxHeartbeats 8000000 in
theorem closed : joinedFacts Try.pinned.checked.prog 7 Try.f7 ((OpenSpec.ofChange Rows.fnExactUndoStepsSpec)).bare Rows.fnExactUndoStepsRow = true := by
  unfold joinedFacts
  repeat' with_reducible refine and_mk ?_ ?_
  case refine_1.refine_1.refine_1.refine_1.refine_1.refine_1.refine_2 => exact enters
  case refine_1.refine_1.refine_1.refine_1.refine_1.refine_2 => exact (show (Rows.fnExactUndoStepsRow.lifted == Try.prog.liftsFinal) = true by rw [final_no]; rfl)
  case refine_1.refine_1.refine_1.refine_1.refine_2 => exact (show (Try.prog.make == some Rows.fnExactUndoStepsRow.make) = true by rw [make_cut]; rfl)
  case refine_1.refine_1.refine_1.refine_1.refine_1.refine_1.refine_1.refine_1.refine_1.refine_1.refine_1.refine_1.refine_1.refine_1.refine_1.refine_1.refine_1.refine_1.refine_1.refine_1.refine_1.refine_1.refine_1.refine_1.refine_1.refine_1.refine_1.refine_1.refine_1.refine_1.refine_2 => exact laidOut
  case refine_1.refine_1.refine_1.refine_1.refine_1.refine_1.refine_1.refine_1.refine_1.refine_1.refine_1.refine_1.refine_1.refine_1.refine_1.refine_1.refine_1.refine_1.refine_1.refine_1.refine_1.refine_1.refine_1.refine_1.refine_1.refine_1.refine_1.refine_1.refine_1.refine_2 => exact maps_rowed
  case refine_1.refine_1.refine_1.refine_1.refine_1.refine_1.refine_1.refine_2 => exact stops_heard
  all_goals (as_aux_lemma => kernel_rfl)
theorem proved : Rows.FnExactUndoStepsSaid :=
  OpenClaim.holds_of_cond 7 Try.f7 rfl rfl rfl rfl rfl rfl rfl ⟨rfl, rfl, rfl, rfl, rfl⟩ rfl rfl rfl rfl rfl (by kernel_rfl) Try.func7 closed
    (of_decide_eq_true (by kernel_rfl)) (by unfold Func.isWrapper; first | (rw [if_pos (by decide +kernel)]; kernel_rfl) | (rw [if_neg (by decide +kernel)]; exact ⟨rfl, rfl⟩))
    (fun os started H enc _ F => by rw [OpenClaim.pre_eq_preRow]; exact lifted os started H enc F)
#print axioms proved
end Go.Proofs.Ytekdodlkimgbhaa.fnExactUndoSteps
