/-
  The contracts of the reference's l8Lasts, l8Safe and l8Refuted, by induction on the number of moves.
-/
import Derived.Test.YtlboglcpbbnbcabSpecDead
import Derived.Test.YtlboglcpbbnbcabImplWorst
import Derived.Test.YtlboglcpbbnbcabOver
namespace Go.Proofs.Ytlboglcpbbnbcab
open Go.RowKit Plain
attribute [local go_sem] store_new
set_option linter.unusedVariables false
set_option linter.unusedSimpArgs false
def LAn (n : Nat) : Prop := ∀ (f : Nat → Int) (w : World), Vd f → Calls Try.prog 108 #[.agg (mk 16 f), .int .i64 (n : Int)] w fun e w' => e = .returned (.bool (lastF n f)) ∧ Below w.heap.size w w'
def SAn (n : Nat) : Prop := ∀ (f : Nat → Int) (d : Nat) (N : Int) (w : World), Vd f → d < 4 → N - 1 = (n : Int) → Calls Try.prog 111 #[.agg (mk 16 f), .int .i64 (d : Int), .int .i64 N] w fun e w' => e = .returned (.bool (sfF n f d)) ∧ Below w.heap.size w w'
def RFn (n : Nat) : Prop := ∀ (f : Nat → Int) (N : Int) (w : World), Vd f → N - 1 = (n : Int) → Calls Try.prog 114 #[.agg (mk 16 f), .int .i64 N] w fun e w' => e = .returned (.tuple #[.agg (mk 3 (plF (rfP (rfF n f (plA f))))), .bool (rfF n f (plA f)).isSome]) ∧ Below w.heap.size w w'
theorem split_at {α : Type} {L : List α} {k : Nat} {p : α} (h : L[k]? = some p) : L = L.take k ++ p :: L.drop (k + 1) := by
  have hi := (List.getElem?_eq_some_iff.1 h).1
  have hp := (List.getElem?_eq_some_iff.1 h).2
  conv => lhs; rw [← List.take_append_drop k L]
  rw [List.drop_eq_getElem_cons hi, hp]
theorem rf_zero : RFn 0 := by
  intro f N w hV hN
  have hN1 : N = 1 := by omega
  subst hN1
  have z3 := zero3
  have K1 := (Blk.new w 16 f 29).alloc (.cells (mk 3 fun _ => 0) 70)
  have K2 := Blk.new (w.alloc (.cells (mk 16 f) 29)) 3 (fun _ => 0) 70
  have HB := Lib.hid (((Below.refl w.heap.size w).alloc (Nat.le_refl _) (.cells (mk 16 f) 29)).alloc (by simp) (.cells (mk 3 fun _ => 0) 70))
  simp only [World.size_alloc] at K2
  have hz := mk_plF0
  rw [rfF_zero]
  show Calls _ _ _ _ fun e w' => e = .returned (.tuple #[.agg (mk 3 (plF (0, 0))), .bool false]) ∧ _
  rw [hz]
  clear hz hV hN
  go_enter Try.func114, Try.ntmps114
  go_wp2_with ((with_reducible show wpList _ _ _ (Oper.mk _ (Op.store 70 _ _) _ _ _ _ :: _) _ _); refine storeA (K2) rfl rfl rfl rfl ?_)
  try simp only [Exit.inBlock, Exit.then]
  exact retctA (K2.row 3 _) rfl rfl rfl ⟨rfl, below_setRow HB.out (by omega) _⟩
set_option maxHeartbeats 4000000 in
set_option maxRecDepth 20000 in
theorem rf_of_last {m : Nat} (hL : LAn m) (h1 : 1 ≤ m) (h3 : m ≤ 2) : RFn m := by
  intro f N w hV hN
  have z3 := zero3
  have K1 := (Blk.new w 16 f 29).alloc (.cells (mk 3 fun _ => 0) 70)
  have K2 := Blk.new (w.alloc (.cells (mk 16 f) 29)) 3 (fun _ => 0) 70
  have HB := Lib.hid (((Below.refl w.heap.size w).alloc (Nat.le_refl _) (.cells (mk 16 f) 29)).alloc (by simp) (.cells (mk 3 fun _ => 0) 70))
  simp only [World.size_alloc] at K2
  have HLA : Hid (∀ p (W : World), PlOk f p → Calls Try.prog 108 #[.agg (mk 16 (plB f p)), .int .i64 (N - 1)] W fun e w' => e = .returned (.bool (lastF m (plB f p))) ∧ Below W.heap.size W w') := by
    intro p W hp
    rw [hN]
    exact hL (plB f p) W (pl_vd hV hp)
  have hN1 : (N == 1) = false := by rw [beq_eq_false_iff_ne]; omega
  have hNa : 1 ≤ N := by omega
  have hNb : N ≤ 3 := by omega
  have hwN : IntKind.i64.wrap (N - 1) = N - 1 := IntWalk.i64_in _ (by omega)
  clear hL hN
  go_enter Try.func114, Try.ntmps114
  go_wp2_with ((with_reducible show wpList _ _ _ (Oper.mk _ (Op.load 29 _) _ _ _ _ :: _) _ _); refine loadB (K1) rfl rfl rfl ?_)
  refine (l8Places_any f _).mono ?_
  rintro e w2 ⟨ga, ca, rfl, ho, hb⟩
  have K1 := K1.below hb K1.lt
  have K2 := K2.below hb K2.lt
  have HB : Hid (Below w.heap.size w w2) := HB.out.trans (hb.mono HB.out.size)
  obtain ⟨_, _, e1, _, hc⟩ := KRow.of_list (pl_all (plA f)) ho
  cases e1
  have CM : CAt w2 ga ((plL (plA f)).length * 3) (flatF (plL (plA f))) := hc
  have hle : (plL (plA f)).length ≤ 32 := by rw [plL_len]; exact plA_le f
  have HGE := Lib.hid (fun k (hk : k < (plL (plA f)).length) => (show ∃ p, (plA f)[k]? = some p from ⟨(plA f)[k]'(by rw [plL_len] at hk; exact hk), List.getElem?_eq_getElem (by rw [plL_len] at hk; exact hk)⟩))
  have HAT := Lib.hid (fun k p (e : (plA f)[k]? = some p) => pl_at e)
  have HOK := Lib.hid (fun k p (e : (plA f)[k]? = some p) => plA_ok.1 (List.mem_of_getElem? e))
  have HTK := Lib.hid (fun k p (e : (plA f)[k]? = some p) => take_step e)
  have HTA : Hid ((plA f).take (plL (plA f)).length = plA f) := by show _ = _; rw [plL_len]; exact List.take_length
  clear hb ho hc hV
  generalize hLL : plA f = L at *
  generalize hN9 : (plL L).length = n at *
  generalize hH : flatF (plL L) = h at *
  go_wp2_with fail
  go_loopg [7] n (fun gk s7 wr => ∃ (k : Nat), k + gk = n ∧ s7 = .int .i64 k ∧ Hid (rfF m f (L.take k) = none) ∧ CAt wr ga (n * 3) h ∧ Blk wr w.heap.size 16 f 29 ∧ Blk wr (w.heap.size + 1) 3 (fun _ => 0) 70 ∧ Hid (Below w.heap.size w wr))
  case atStart => exact ⟨0, by omega, rfl, rfl, CM, K1, K2, HB⟩
  case round =>
    obtain ⟨k, hkg, rfl, HRN, CM, K1, K2, HB⟩ := hrel
    cases gk with
    | zero =>
      have hk : ¬ ((k : Int) < (n : Int)) := by omega
      obtain rfl : k = n := by omega
      have HR0 : Hid (rfF m f L = none) := by show _ = _; rw [← HTA.out]; exact HRN.out
      clear hkg
      go_wp2_with ((with_reducible show wpList _ _ _ (Oper.mk _ (Op.store 70 _ _) _ _ _ _ :: _) _ _); refine storeA (K2) rfl rfl rfl rfl ?_)
      try simp only [Exit.inBlock, Exit.then]
      refine retctA (K2.row 3 _) rfl rfl rfl ⟨?_, below_setRow HB.out (by omega) _⟩
      first | rw [hLL, HR0.out] | rw [HR0.out]
      show _ = Ending.returned (.tuple #[.agg (mk 3 (plF (0, 0))), .bool false])
      rw [mk_plF0]
      rfl
    | succ gk2 =>
      have hk8 : (k : Int) < (n : Int) := by omega
      have hk9 : k < n := by omega
      have hk0 : (0 : Int) ≤ (k : Int) := by omega
      obtain ⟨p, hkp⟩ := HGE.out k hk9
      have HPV : Hid (mk 3 (fun j => h (k * 3 + j)) = mk 3 (plF p)) := HAT.out k p hkp
      have HPO : Hid (PlOk f p) := HOK.out k p hkp
      have HT : Hid (L.take (k + 1) = L.take k ++ [p]) := HTK.out k p hkp
      have HSP : Hid (L = L.take k ++ p :: L.drop (k + 1)) := split_at hkp
      have HLB := Lib.hid (fun W => HLA.out p W HPO.out)
      clear hkp
      cases hq : lastF m (plB f p) with
      | false =>
        have Y : Hid (rfF m f L = some p) := by
          show _ = _
          rw [HSP.out]
          exact rfF_some HRN.out hq _
        rw [hq] at HLB
        clear hq
        go_wp2_with fail
        refine wp_region_held_drew (S := fun W => Blk W w.heap.size 16 f 29 ∧ CAt W ga (n * 3) h) (by kernel_rfl) (⟨K1.drew, CM.drew⟩) (fun hHeld => ?_)
        have K1 : Blk wr.drew w.heap.size 16 f 29 := K1.drew
        have CM : CAt wr.drew ga (n * 3) h := CM.drew
        have BX : Hid (Below wr.heap.size wr wr.drew) := (Below.refl _ wr).drew
        generalize wr.drew = x0 at *
        refine wpAnyH_take (i := 0) (oi := { dst := some 19, op := _, type := _, pos := _, after := _, guard := _ }) (v := .agg (mk 16 f)) rfl (by kernel_rfl) (by kernel_rfl) (by kernel_rfl) (fun _ _ _ h => h) (Or.inl ⟨by rfl, fun _ q => execB q.1 rfl rfl⟩) (by assumption) ?_
        try simp only [Act.put, List.setIfInBounds_toArray, List.set_cons_zero, List.set_cons_succ]
        refine wpAnyH_take (i := 1) (oi := { dst := some 20, op := _, type := _, pos := _, after := _, guard := _ }) (v := .slice (some ⟨ga, 0, none⟩) n ca) rfl (by kernel_rfl) (by kernel_rfl) (by kernel_rfl) (fun _ _ _ h => h) (Or.inl ⟨by rfl, by intro w hSw; clear hSw; go_simp; (try with_reducible rfl)⟩) (by assumption) ?_
        try simp only [Act.put, List.setIfInBounds_toArray, List.set_cons_zero, List.set_cons_succ]
        refine wpAnyH_take (i := 2) (oi := { dst := some 21, op := _, type := _, pos := _, after := _, guard := _ }) (v := .int .i64 (k : Int)) rfl (by kernel_rfl) (by kernel_rfl) (by kernel_rfl) (fun _ _ _ h => h) (Or.inl ⟨by rfl, by intro w hSw; clear hSw; go_simp; (try with_reducible rfl)⟩) (by assumption) ?_
        try simp only [Act.put, List.setIfInBounds_toArray, List.set_cons_zero, List.set_cons_succ]
        refine wpAnyH_take (i := 3) (oi := { dst := some 22, op := _, type := _, pos := _, after := _, guard := _ }) (v := .pointer (some ⟨ga, k * 3, none⟩)) rfl (by kernel_rfl) (by kernel_rfl) (by kernel_rfl) (fun _ _ _ h => h) (Or.inl ⟨by rfl, by intro w hSw; clear hSw; go_simp; (try with_reducible rfl)⟩) (by assumption) ?_
        try simp only [Act.put, List.setIfInBounds_toArray, List.set_cons_zero, List.set_cons_succ]
        refine wpAnyH_take (i := 4) (oi := { dst := some 23, op := _, type := _, pos := _, after := _, guard := _ }) (v := .agg (mk 3 (plF p))) rfl (by kernel_rfl) (by kernel_rfl) (by kernel_rfl) (fun _ _ _ h => h) (Or.inl ⟨by rfl, by intro W q; rw [← HPV.out]; exact execAA q.2 (by omega) rfl rfl⟩) (by assumption) ?_
        try simp only [Act.put, List.setIfInBounds_toArray, List.set_cons_zero, List.set_cons_succ]
        refine wpAnyH_take (i := 6) (oi := { dst := some 25, op := _, type := _, pos := _, after := _, guard := _ }) (v := .int .i64 N) rfl (by kernel_rfl) (by kernel_rfl) (by kernel_rfl) (fun _ _ _ h => h) (Or.inl ⟨by rfl, by intro w hSw; clear hSw; go_simp; (try with_reducible rfl)⟩) (by assumption) ?_
        try simp only [Act.put, List.setIfInBounds_toArray, List.set_cons_zero, List.set_cons_succ]
        refine wpAnyH_take (i := 7) (oi := { dst := some 26, op := _, type := _, pos := _, after := _, guard := _ }) (v := .int .i64 (N - 1)) rfl (by kernel_rfl) (by kernel_rfl) (by kernel_rfl) (fun _ _ _ h => h) (Or.inl ⟨by rfl, by intro w hSw; clear hSw; go_simp; (try with_reducible rfl)⟩) (by assumption) ?_
        try simp only [Act.put, List.setIfInBounds_toArray, List.set_cons_zero, List.set_cons_succ]
        refine wpAnyH_ready (rs := [5]) (by kernel_rfl) (by simp) ?_
        refine AllReadyH.cons rfl (fun K hK => ?_) AllReadyH.nil
        go_simp
        refine (putPl_any f p _ HPO.out).mono ?_
        rintro e x1 ⟨rfl, hb⟩
        have CM := CM.below hb
        have K1 := K1.below hb K1.lt
        have BX : Hid (Below wr.heap.size wr x1) := BX.out.trans (hb.mono BX.out.size)
        clear hb hHeld
        go_wp2_with fail
        refine hK.out _ _ ⟨K1, CM⟩ (fun hHeld => ?_)
        clear hK K
        try simp only [Act.put, List.setIfInBounds_toArray, List.set_cons_zero, List.set_cons_succ]
        refine wpAnyH_ready (rs := [8]) (by kernel_rfl) (by simp) ?_
        refine AllReadyH.cons rfl (fun K hK => ?_) AllReadyH.nil
        go_simp
        refine (HLB.out _).mono ?_
        rintro e x2 ⟨rfl, hb⟩
        have CM := CM.below hb
        have K1 := K1.below hb K1.lt
        have BX : Hid (Below wr.heap.size wr x2) := BX.out.trans (hb.mono BX.out.size)
        clear hb hHeld
        go_wp2_with fail
        refine hK.out _ _ ⟨K1, CM⟩ (fun hHeld => ?_)
        clear hK K
        try simp only [Act.put, List.setIfInBounds_toArray, List.set_cons_zero, List.set_cons_succ]
        refine wpAnyH_take (i := 9) (oi := { dst := some 28, op := _, type := _, pos := _, after := _, guard := _ }) (v := .bool true) rfl (by kernel_rfl) (by kernel_rfl) (by kernel_rfl) (fun _ _ _ h => h) (Or.inl ⟨by rfl, by intro w hSw; clear hSw; go_simp; (try with_reducible rfl)⟩) (by assumption) ?_
        try simp only [Act.put, List.setIfInBounds_toArray, List.set_cons_zero, List.set_cons_succ]
        refine wpAnyH_done (by kernel_rfl) ?_ _
        clear hHeld
        have K2 := K2.below BX.out K2.lt
        have HB : Hid (Below w.heap.size w x2) := HB.out.trans (BX.out.mono HB.out.size)
        clear BX
        go_wp2_with (first | ((with_reducible show wpList _ _ _ (Oper.mk _ (Op.load 70 _) _ _ _ _ :: _) _ _); refine loadAA (CM) (by omega) rfl rfl rfl ?_) | ((with_reducible show wpList _ _ _ (Oper.mk _ (Op.store 70 _ _) _ _ _ _ :: _) _ _); refine storeA (K2) rfl rfl rfl rfl ?_))
        try simp only [Exit.inBlock, Exit.then]
        try rw [Exit.noGoto_ret]
        refine retctA (K2.row 3 _) rfl rfl rfl ⟨?_, below_setRow HB.out (by omega) _⟩
        rw [hLL, Y.out, HPV.out]
        rfl
      | true =>
        have Y : Hid (rfF m f (L.take (k + 1)) = none) := by show _ = _; rw [HT.out]; exact rfF_none HRN.out hq
        rw [hq] at HLB
        clear hq
        go_wp2_with fail
        refine wp_region_held_drew (S := fun W => Blk W w.heap.size 16 f 29 ∧ CAt W ga (n * 3) h) (by kernel_rfl) (⟨K1.drew, CM.drew⟩) (fun hHeld => ?_)
        have K1 : Blk wr.drew w.heap.size 16 f 29 := K1.drew
        have CM : CAt wr.drew ga (n * 3) h := CM.drew
        have BX : Hid (Below wr.heap.size wr wr.drew) := (Below.refl _ wr).drew
        generalize wr.drew = x0 at *
        refine wpAnyH_take (i := 0) (oi := { dst := some 19, op := _, type := _, pos := _, after := _, guard := _ }) (v := .agg (mk 16 f)) rfl (by kernel_rfl) (by kernel_rfl) (by kernel_rfl) (fun _ _ _ h => h) (Or.inl ⟨by rfl, fun _ q => execB q.1 rfl rfl⟩) (by assumption) ?_
        try simp only [Act.put, List.setIfInBounds_toArray, List.set_cons_zero, List.set_cons_succ]
        refine wpAnyH_take (i := 1) (oi := { dst := some 20, op := _, type := _, pos := _, after := _, guard := _ }) (v := .slice (some ⟨ga, 0, none⟩) n ca) rfl (by kernel_rfl) (by kernel_rfl) (by kernel_rfl) (fun _ _ _ h => h) (Or.inl ⟨by rfl, by intro w hSw; clear hSw; go_simp; (try with_reducible rfl)⟩) (by assumption) ?_
        try simp only [Act.put, List.setIfInBounds_toArray, List.set_cons_zero, List.set_cons_succ]
        refine wpAnyH_take (i := 2) (oi := { dst := some 21, op := _, type := _, pos := _, after := _, guard := _ }) (v := .int .i64 (k : Int)) rfl (by kernel_rfl) (by kernel_rfl) (by kernel_rfl) (fun _ _ _ h => h) (Or.inl ⟨by rfl, by intro w hSw; clear hSw; go_simp; (try with_reducible rfl)⟩) (by assumption) ?_
        try simp only [Act.put, List.setIfInBounds_toArray, List.set_cons_zero, List.set_cons_succ]
        refine wpAnyH_take (i := 3) (oi := { dst := some 22, op := _, type := _, pos := _, after := _, guard := _ }) (v := .pointer (some ⟨ga, k * 3, none⟩)) rfl (by kernel_rfl) (by kernel_rfl) (by kernel_rfl) (fun _ _ _ h => h) (Or.inl ⟨by rfl, by intro w hSw; clear hSw; go_simp; (try with_reducible rfl)⟩) (by assumption) ?_
        try simp only [Act.put, List.setIfInBounds_toArray, List.set_cons_zero, List.set_cons_succ]
        refine wpAnyH_take (i := 4) (oi := { dst := some 23, op := _, type := _, pos := _, after := _, guard := _ }) (v := .agg (mk 3 (plF p))) rfl (by kernel_rfl) (by kernel_rfl) (by kernel_rfl) (fun _ _ _ h => h) (Or.inl ⟨by rfl, by intro W q; rw [← HPV.out]; exact execAA q.2 (by omega) rfl rfl⟩) (by assumption) ?_
        try simp only [Act.put, List.setIfInBounds_toArray, List.set_cons_zero, List.set_cons_succ]
        refine wpAnyH_take (i := 6) (oi := { dst := some 25, op := _, type := _, pos := _, after := _, guard := _ }) (v := .int .i64 N) rfl (by kernel_rfl) (by kernel_rfl) (by kernel_rfl) (fun _ _ _ h => h) (Or.inl ⟨by rfl, by intro w hSw; clear hSw; go_simp; (try with_reducible rfl)⟩) (by assumption) ?_
        try simp only [Act.put, List.setIfInBounds_toArray, List.set_cons_zero, List.set_cons_succ]
        refine wpAnyH_take (i := 7) (oi := { dst := some 26, op := _, type := _, pos := _, after := _, guard := _ }) (v := .int .i64 (N - 1)) rfl (by kernel_rfl) (by kernel_rfl) (by kernel_rfl) (fun _ _ _ h => h) (Or.inl ⟨by rfl, by intro w hSw; clear hSw; go_simp; (try with_reducible rfl)⟩) (by assumption) ?_
        try simp only [Act.put, List.setIfInBounds_toArray, List.set_cons_zero, List.set_cons_succ]
        refine wpAnyH_ready (rs := [5]) (by kernel_rfl) (by simp) ?_
        refine AllReadyH.cons rfl (fun K hK => ?_) AllReadyH.nil
        go_simp
        refine (putPl_any f p _ HPO.out).mono ?_
        rintro e x1 ⟨rfl, hb⟩
        have CM := CM.below hb
        have K1 := K1.below hb K1.lt
        have BX : Hid (Below wr.heap.size wr x1) := BX.out.trans (hb.mono BX.out.size)
        clear hb hHeld
        go_wp2_with fail
        refine hK.out _ _ ⟨K1, CM⟩ (fun hHeld => ?_)
        clear hK K
        try simp only [Act.put, List.setIfInBounds_toArray, List.set_cons_zero, List.set_cons_succ]
        refine wpAnyH_ready (rs := [8]) (by kernel_rfl) (by simp) ?_
        refine AllReadyH.cons rfl (fun K hK => ?_) AllReadyH.nil
        go_simp
        refine (HLB.out _).mono ?_
        rintro e x2 ⟨rfl, hb⟩
        have CM := CM.below hb
        have K1 := K1.below hb K1.lt
        have BX : Hid (Below wr.heap.size wr x2) := BX.out.trans (hb.mono BX.out.size)
        clear hb hHeld
        go_wp2_with fail
        refine hK.out _ _ ⟨K1, CM⟩ (fun hHeld => ?_)
        clear hK K
        try simp only [Act.put, List.setIfInBounds_toArray, List.set_cons_zero, List.set_cons_succ]
        refine wpAnyH_take (i := 9) (oi := { dst := some 28, op := _, type := _, pos := _, after := _, guard := _ }) (v := .bool false) rfl (by kernel_rfl) (by kernel_rfl) (by kernel_rfl) (fun _ _ _ h => h) (Or.inl ⟨by rfl, by intro w hSw; clear hSw; go_simp; (try with_reducible rfl)⟩) (by assumption) ?_
        try simp only [Act.put, List.setIfInBounds_toArray, List.set_cons_zero, List.set_cons_succ]
        refine wpAnyH_done (by kernel_rfl) ?_ _
        clear hHeld
        have K2 := K2.below BX.out K2.lt
        have HB : Hid (Below w.heap.size w x2) := HB.out.trans (BX.out.mono HB.out.size)
        clear BX
        go_wp2_with fail
        go_roundg gk2
        case rel => exact ⟨k + 1, by omega, by go_num, Y, CM, K1, K2, HB⟩
        case measure => omega
set_option maxHeartbeats 1000000 in
theorem sa_of_rf {m : Nat} (hR : RFn m) : SAn m := by
  intro f d N w hV hd hN
  have z3 := zero3
  have z16 := zero16
  have K1 := Blk.new w 16 f 29
  have HB := Lib.hid ((Below.refl w.heap.size w).alloc (Nat.le_refl _) (.cells (mk 16 f) 29))
  have HV := Lib.hid hV
  have HR := Lib.hid (fun W => hR (slideB f d) N W (slideB_vd hV d) hN)
  have hd0 : (0 : Int) ≤ (d : Int) := by omega
  have hd3 : (d : Int) ≤ 3 := by omega
  have iE : ∀ (f g : Nat → Int) (w : World), (Op.equalIn 10000 29 (.agg (mk 16 f)) (.agg (mk 16 g))).run Try.prog w = .ok (sameB f g) w := eqB 9996
  have HSF := Lib.hid (sf_rf m f d)
  clear hV hN hR
  rw [HSF.out]
  cases hm : isMv f d with
  | false =>
    have hq : sameB (slideB f d) f = true := by simpa [isMv] using hm
    clear hm HSF HR
    go_enter Try.func111, Try.ntmps111
    go_wp2_with ((with_reducible show wpList _ _ _ (Oper.mk _ (Op.load 29 _) _ _ _ _ :: _) _ _); refine loadB (K1) rfl rfl rfl ?_)
    refine (l2Slide_nat f d _ HV.out hd0 hd3).mono ?_
    rintro e w3 ⟨rfl, hb⟩
    have K1 := (K1.below hb K1.lt).alloc (.cells (mk 16 (slideB f d)) 29)
    have K9 := Blk.new w3 16 (slideB f d) 29
    have HB3 : Hid (Below w.heap.size w w3) := HB.out.trans (hb.mono HB.out.size)
    have HB : Hid (Below w.heap.size w (w3.alloc (.cells (mk 16 (slideB f d)) 29))) := HB3.out.alloc HB3.out.size _
    clear hb HB3
    go_wp2_with (first | ((with_reducible show wpList _ _ _ (Oper.mk _ (Op.load 29 _) _ _ _ _ :: _) _ _); refine loadB (K9) rfl rfl rfl ?_) | ((with_reducible show wpList _ _ _ (Oper.mk _ (Op.load 29 _) _ _ _ _ :: _) _ _); refine loadB (K1) rfl rfl rfl ?_))
    go_ret
    exact ⟨rfl, HB.out⟩
  | true =>
    have hq : sameB (slideB f d) f = false := by simpa [isMv] using hm
    have HNS : Hid (∀ b : Bool, (rfF m (slideB f d) (plA (slideB f d))).isSome = b → (true && (rfF m (slideB f d) (plA (slideB f d))).isNone) = !b) := by
      intro b hb
      cases h : rfF m (slideB f d) (plA (slideB f d)) <;> rw [h] at hb <;> subst hb <;> rfl
    clear hm HSF
    generalize rfF m (slideB f d) (plA (slideB f d)) = R at *
    cases hR : R.isSome with
    | false =>
      rw [HNS.out false hR]
      rw [hR] at HR
      clear hR HNS
      generalize plF (rfP R) = pp at *
      go_enter Try.func111, Try.ntmps111
      go_wp2_with ((with_reducible show wpList _ _ _ (Oper.mk _ (Op.load 29 _) _ _ _ _ :: _) _ _); refine loadB (K1) rfl rfl rfl ?_)
      refine (l2Slide_nat f d _ HV.out hd0 hd3).mono ?_
      rintro e w3 ⟨rfl, hb⟩
      have K1 := (K1.below hb K1.lt).alloc (.cells (mk 16 (slideB f d)) 29)
      have K9 := Blk.new w3 16 (slideB f d) 29
      have HB3 : Hid (Below w.heap.size w w3) := HB.out.trans (hb.mono HB.out.size)
      have HB : Hid (Below w.heap.size w (w3.alloc (.cells (mk 16 (slideB f d)) 29))) := HB3.out.alloc HB3.out.size _
      clear hb HB3
      go_wp2_with (first | ((with_reducible show wpList _ _ _ (Oper.mk _ (Op.load 29 _) _ _ _ _ :: _) _ _); refine loadB (K9) rfl rfl rfl ?_) | ((with_reducible show wpList _ _ _ (Oper.mk _ (Op.load 29 _) _ _ _ _ :: _) _ _); refine loadB (K1) rfl rfl rfl ?_))
      refine (HR.out _).mono ?_
      rintro e w5 ⟨rfl, hb⟩
      have HB5 : Hid (Below w.heap.size w w5) := HB.out.trans (hb.mono HB.out.size)
      have HB : Hid (Below w.heap.size w (w5.alloc (.cells (mk 3 pp) 70))) := HB5.out.alloc HB5.out.size _
      clear hb HB5
      go_wp2_with fail
      go_ret
      exact ⟨rfl, HB.out⟩
    | true =>
      rw [HNS.out true hR]
      rw [hR] at HR
      clear hR HNS
      generalize plF (rfP R) = pp at *
      go_enter Try.func111, Try.ntmps111
      go_wp2_with ((with_reducible show wpList _ _ _ (Oper.mk _ (Op.load 29 _) _ _ _ _ :: _) _ _); refine loadB (K1) rfl rfl rfl ?_)
      refine (l2Slide_nat f d _ HV.out hd0 hd3).mono ?_
      rintro e w3 ⟨rfl, hb⟩
      have K1 := (K1.below hb K1.lt).alloc (.cells (mk 16 (slideB f d)) 29)
      have K9 := Blk.new w3 16 (slideB f d) 29
      have HB3 : Hid (Below w.heap.size w w3) := HB.out.trans (hb.mono HB.out.size)
      have HB : Hid (Below w.heap.size w (w3.alloc (.cells (mk 16 (slideB f d)) 29))) := HB3.out.alloc HB3.out.size _
      clear hb HB3
      go_wp2_with (first | ((with_reducible show wpList _ _ _ (Oper.mk _ (Op.load 29 _) _ _ _ _ :: _) _ _); refine loadB (K9) rfl rfl rfl ?_) | ((with_reducible show wpList _ _ _ (Oper.mk _ (Op.load 29 _) _ _ _ _ :: _) _ _); refine loadB (K1) rfl rfl rfl ?_))
      refine (HR.out _).mono ?_
      rintro e w5 ⟨rfl, hb⟩
      have HB5 : Hid (Below w.heap.size w w5) := HB.out.trans (hb.mono HB.out.size)
      have HB : Hid (Below w.heap.size w (w5.alloc (.cells (mk 3 pp) 70))) := HB5.out.alloc HB5.out.size _
      clear hb HB5
      go_wp2_with fail
      go_ret
      exact ⟨rfl, HB.out⟩
set_option maxHeartbeats 1000000 in
theorem la_of_sa {m : Nat} (hS : SAn m) (hm : m ≤ 2) : LAn (m + 1) := by
  intro f w hV
  have K1 := Blk.new w 16 f 29
  have HB := Lib.hid ((Below.refl w.heap.size w).alloc (Nat.le_refl _) (.cells (mk 16 f) 29))
  have HS := Lib.hid (fun d W (hd : d < 4) => hS f d ((m + 1 : Nat) : Int) W hV hd (by omega))
  have HYES : Hid (∀ d, d < 4 → sfF m f d = true → lastF (m + 1) f = true) := fun d hd h => (last_iff m f).2 ⟨d, hd, h⟩
  have HNO : Hid (sfL m f 4 = [] → lastF (m + 1) f = false) := fun h => by rw [last_sfL, h]; rfl
  have HST : Hid (∀ k, sfF m f k = false → sfL m f (k + 1) = sfL m f k) := fun k h => sfL_no h
  have hne : (((m + 1 : Nat) : Int) == 0) = false := by rw [beq_eq_false_iff_ne]; omega
  clear hS hV
  generalize ((m + 1 : Nat) : Int) = N at *
  generalize lastF (m + 1) f = R at *
  go_enter Try.func108, Try.ntmps108
  go_wp2_with fail
  go_loopg [5] 4 (fun gk s5 wr => ∃ (k : Nat), k + gk = 4 ∧ s5 = .int .i64 k ∧ Hid (sfL m f k = []) ∧ Blk wr w.heap.size 16 f 29 ∧ Hid (Below w.heap.size w wr))
  case atStart => exact ⟨0, by omega, rfl, rfl, K1, HB⟩
  case round =>
    obtain ⟨k, hkg, rfl, HE, K1, HB⟩ := hrel
    cases gk with
    | zero =>
      have hk : ¬ ((k : Int) < 4) := by omega
      obtain rfl : k = 4 := by omega
      clear hkg hk
      go_wp2_with fail
      go_ret
      exact ⟨by rw [HNO.out HE.out]; rfl, HB.out⟩
    | succ gk2 =>
      have hk8 : (k : Int) < 4 := by omega
      have hk9 : k < 4 := by omega
      have hk0 : (0 : Int) ≤ (k : Int) := by omega
      go_wp2_with ((with_reducible show wpList _ _ _ (Oper.mk _ (Op.load 29 _) _ _ _ _ :: _) _ _); refine loadB (K1) rfl rfl rfl ?_)
      refine (HS.out k _ hk9).mono ?_
      rintro e w3 ⟨rfl, hb⟩
      have K1 := K1.below hb K1.lt
      have HB : Hid (Below w.heap.size w w3) := HB.out.trans (hb.mono HB.out.size)
      clear hb
      cases hs : sfF m f k with
      | true =>
        have HY : Hid (R = true) := HYES.out k hk9 hs
        clear hs
        go_wp2_with fail
        try simp only [Exit.inBlock, Exit.then]
        try rw [Exit.noGoto_ret]
        go_ret
        exact ⟨by rw [HY.out]; rfl, HB.out⟩
      | false =>
        have HY : Hid (sfL m f (k + 1) = []) := by show _ = _; rw [HST.out k hs]; exact HE.out
        clear hs
        go_wp2_with fail
        go_roundg gk2
        case rel => exact ⟨k + 1, by omega, by go_num, HY, K1, HB⟩
        case measure => omega
theorem la_zero : LAn 0 := by
  intro f w hV
  have HB := Lib.hid ((Below.refl w.heap.size w).alloc (Nat.le_refl _) (.cells (mk 16 f) 29))
  rw [last_zero]
  show Calls _ _ #[_, .int .i64 0] _ _
  go_enter Try.func108, Try.ntmps108
  go_wp2_with fail
  go_ret
  exact ⟨rfl, HB.out⟩
theorem rf_of {m : Nat} (hL : LAn m) (h3 : m ≤ 2) : RFn m := by
  by_cases h0 : m = 0
  · subst h0; exact rf_zero
  · exact rf_of_last hL (by omega) h3
theorem la_all : ∀ n, n ≤ 3 → LAn n
  | 0, _ => la_zero
  | n + 1, h => la_of_sa (sa_of_rf (rf_of (la_all n (by omega)) (by omega))) (by omega)
theorem rf_all (n : Nat) (h : n ≤ 2) : RFn n := rf_of (la_all n (by omega)) h
theorem sa_all (n : Nat) (h : n ≤ 2) : SAn n := sa_of_rf (rf_all n h)
end Go.Proofs.Ytlboglcpbbnbcab
