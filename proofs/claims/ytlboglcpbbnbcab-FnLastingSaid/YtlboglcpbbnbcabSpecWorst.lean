/-
  The contract of the reference's WorstTile, for every board.
-/
import Derived.Test.YtlboglcpbbnbcabSpecDead
import Derived.Test.YtlboglcpbbnbcabImplWorst
namespace Go.Proofs.Ytlboglcpbbnbcab
open Go.RowKit Plain
attribute [local go_sem] store_new
set_option linter.unusedVariables false
set_option linter.unusedSimpArgs false
/-- The least number so far: five before the first. -/
def bS (S : Lst) : Int := if S.ok = true then S.v else 5
theorem lsF_okS (c : Nat × Nat → Int) (L : List (Nat × Nat)) : L ≠ [] → (lsF c L).ok = true := by
  refine list_snoc (fun L => L ≠ [] → (lsF c L).ok = true) (fun h => absurd rfl h) (fun L x ih _ => ?_) L
  rw [lsF_snoc]
  unfold lsStep
  split
  · rfl
  · rename_i h
    cases e : (lsF c L).ok with
    | true => rfl
    | false => exact absurd (.inl e) h
theorem lsF_ok {c : Nat × Nat → Int} {L : List (Nat × Nat)} (h : L ≠ []) : (lsF c L).ok = true := lsF_okS c L h
set_option maxHeartbeats 4000000 in
set_option maxRecDepth 20000 in
theorem specWorst_any (f : Nat → Int) (w : World) :
    Calls Try.prog 63 #[.agg (mk 16 f)] w fun e w' => e = .returned (.tuple #[.agg (mk 3 (plF (wtR f).p)), .int .i64 (wtR f).v, .bool (wtR f).ok]) ∧ Below w.heap.size w w' := by
  have z3 := zero3
  have K1 := (Blk.new w 16 f 29).alloc (.cells (mk 3 fun _ => 0) 70)
  have K2 := Blk.new (w.alloc (.cells (mk 16 f) 29)) 3 (fun _ => 0) 70
  have HB := Lib.hid (((Below.refl w.heap.size w).alloc (Nat.le_refl _) (.cells (mk 16 f) 29)).alloc (by simp) (.cells (mk 3 fun _ => 0) 70))
  simp only [World.size_alloc] at K2
  by_cases hV : Vd f
  · rw [wtR_yes hV]
    have HV := Lib.hid hV
    have hne := empN_le f 16
    by_cases he : empN f 16 = 0
    · have hpl : plA f = [] := List.eq_nil_of_length_eq_zero (by rw [plA_len, he])
      have hz := mk_plF0
      rw [hpl]
      clear hpl hV hne
      have hei : ((empN f 16 : Nat) : Int) = 0 := by omega
      show Calls _ _ _ _ fun e w' => e = .returned (.tuple #[.agg (mk 3 (plF (0, 0))), .int .i64 0, .bool false]) ∧ _
      rw [hz]
      clear hz
      have HEM := Lib.hid (l2Empty_any f)
      rw [he] at HEM
      clear he hei
      go_enter Try.func63, Try.ntmps63
      go_wp2_with ((with_reducible show wpList _ _ _ (Oper.mk _ (Op.load 29 _) _ _ _ _ :: _) _ _); refine loadB (K1) rfl rfl rfl ?_)
      refine (l2Board_yes _ _ HV.out).mono ?_
      rintro e w1 ⟨rfl, hb⟩
      have K1 := K1.below hb K1.lt
      have K2 := K2.below hb K2.lt
      have HB : Hid (Below w.heap.size w w1) := HB.out.trans (hb.mono HB.out.size)
      clear hb
      go_wp2_with (first | ((with_reducible show wpList _ _ _ (Oper.mk _ (Op.load 29 _) _ _ _ _ :: _) _ _); refine loadB (K1) rfl rfl rfl ?_) | ((with_reducible show wpList _ _ _ (Oper.mk _ (Op.load 29 _) _ _ _ (some _) :: _) _ _); refine loadgB (K1) rfl rfl rfl ?_))
      refine (HEM.out _).mono ?_
      rintro _ w2 ⟨ge, ce, rfl, _, hb⟩
      have K2 := K2.below hb K2.lt
      have HB : Hid (Below w.heap.size w w2) := HB.out.trans (hb.mono HB.out.size)
      clear hb K1 HEM
      go_wp2_with ((with_reducible show wpList _ _ _ (Oper.mk _ (Op.store 70 _ _) _ _ _ _ :: _) _ _); refine storeA (K2) rfl rfl rfl rfl ?_)
      try simp only [Exit.inBlock, Exit.then]
      exact retcttA (K2.row 3 _) rfl rfl rfl ⟨rfl, below_setRow HB.out (by omega) _⟩
    · have HNL : Hid (plA f ≠ []) := fun e => he (by have := plA_len f; rw [e] at this; simp at this; omega)
      have hei : (((empN f 16 : Nat) : Int) == 0) = false := by rw [beq_eq_false_iff_ne]; omega
      have HEM := Lib.hid (l2Empty_any f)
      clear hV
      generalize hnE : empN f 16 = nE at HEM hei hne he
      clear hnE he
      go_enter Try.func63, Try.ntmps63
      go_wp2_with ((with_reducible show wpList _ _ _ (Oper.mk _ (Op.load 29 _) _ _ _ _ :: _) _ _); refine loadB (K1) rfl rfl rfl ?_)
      refine (l2Board_yes _ _ HV.out).mono ?_
      rintro e w1 ⟨rfl, hb⟩
      have K1 := K1.below hb K1.lt
      have K2 := K2.below hb K2.lt
      have HB : Hid (Below w.heap.size w w1) := HB.out.trans (hb.mono HB.out.size)
      clear hb
      go_wp2_with (first | ((with_reducible show wpList _ _ _ (Oper.mk _ (Op.load 29 _) _ _ _ _ :: _) _ _); refine loadB (K1) rfl rfl rfl ?_) | ((with_reducible show wpList _ _ _ (Oper.mk _ (Op.load 29 _) _ _ _ (some _) :: _) _ _); refine loadgB (K1) rfl rfl rfl ?_))
      refine (HEM.out _).mono ?_
      rintro _ w1b ⟨ge, ce, rfl, _, hb⟩
      have K1 := K1.below hb K1.lt
      have K2 := K2.below hb K2.lt
      have HB : Hid (Below w.heap.size w w1b) := HB.out.trans (hb.mono HB.out.size)
      clear hb HEM
      go_wp2_with ((with_reducible show wpList _ _ _ (Oper.mk _ (Op.load 29 _) _ _ _ _ :: _) _ _); refine loadB (K1) rfl rfl rfl ?_)
      refine (l8Places_any f _).mono ?_
      rintro e w2 ⟨ga, ca, rfl, ho, hb⟩
      have K1 := K1.below hb K1.lt
      have K2 := K2.below hb K2.lt
      have hgw : ga < w2.heap.size := (ho.lt ga rfl).2
      have HB : Hid (Below w.heap.size w w2) := HB.out.trans (hb.mono HB.out.size)
      obtain ⟨_, _, e1, _, hc⟩ := KRow.of_list (pl_all (plA f)) ho
      cases e1
      have CM : CAt w2 ga ((plL (plA f)).length * 3) (flatF (plL (plA f))) := hc
      have hle : (plL (plA f)).length ≤ 32 := by rw [plL_len]; exact plA_le f
      have HGE := Lib.hid (fun k (hk : k < (plL (plA f)).length) => (show ∃ p, (plA f)[k]? = some p from ⟨(plA f)[k]'(by rw [plL_len] at hk; exact hk), List.getElem?_eq_getElem (by rw [plL_len] at hk; exact hk)⟩))
      have HAT := Lib.hid (fun k p (e : (plA f)[k]? = some p) => pl_at e)
      have HOK := Lib.hid (fun k p (e : (plA f)[k]? = some p) => plA_ok.1 (List.mem_of_getElem? e))
      have HTK := Lib.hid (fun k p (e : (plA f)[k]? = some p) => take_step e)
      have HTA : Hid ((plA f).take (plL (plA f)).length = plA f) := by show _ = _; rw [plL_len]; exact List.take_length
      clear hb ho hc
      generalize hLL : plA f = L at *
      generalize hN : (plL L).length = n at *
      generalize hH : flatF (plL L) = h at *
      have hln : n ≤ 32 := hle
      go_wp2_with ((with_reducible show wpList _ _ _ (Oper.mk _ (Op.store 70 _ _) _ _ _ _ :: _) _ _); refine storeA (Blk.new _ _ _ _) rfl rfl rfl rfl ?_)
      rw [World.setRow_alloc_new]
      have K3 : Blk (w2.alloc (.cells (mk 3 fun _ => 0) 70)) w2.heap.size 3 (plF ls0.p) 70 := by
        show Blk _ _ _ (plF (0, 0)) _
        unfold Blk
        rw [mk_plF0]
        exact Blk.new w2 3 (fun _ => 0) 70
      have hqs : Hid (w.heap.size + 1 < w2.heap.size) := K2.lt
      have CM := CM.alloc (.cells (mk 3 fun _ => 0) 70)
      have K1 := K1.alloc (.cells (mk 3 fun _ => 0) 70)
      have K2 := K2.alloc (.cells (mk 3 fun _ => 0) 70)
      have HB : Hid (Below w.heap.size w (w2.alloc (.cells (mk 3 fun _ => 0) 70))) := HB.out.alloc HB.out.size _
      have hqs := hqs.out
      generalize w2.alloc (.cells (mk 3 fun _ => 0) 70) = w3 at *
      generalize w2.heap.size = q at *
      go_loopg [6, 8] n (fun gk s6 s8 wr => ∃ (k : Nat) (S : Lst), k + gk = n ∧ s8 = .int .i64 k ∧ S = lsF (mvC f) (L.take k) ∧ s6 = .int .i64 (bS S) ∧ Blk wr q 3 (plF S.p) 70 ∧ CAt wr ga (n * 3) h ∧ Blk wr w.heap.size 16 f 29 ∧ Blk wr (w.heap.size + 1) 3 (fun _ => 0) 70 ∧ Hid (Below w.heap.size w wr))
      case atStart => exact ⟨0, ls0, by omega, rfl, rfl, rfl, K3, CM, K1, K2, HB⟩
      case round =>
        obtain ⟨k, S, hkg, rfl, hSS, rfl, K3, CM, K1, K2, HB⟩ := hrel
        have HSS := Lib.hid hSS
        clear hSS
        cases gk with
        | zero =>
          have hk : ¬ ((k : Int) < (n : Int)) := by omega
          obtain rfl : k = n := by omega
          clear hkg
          have HS2 := HSS.out
          rw [HTA.out] at HS2
          have HOK2 : S.ok = true := by rw [HS2]; exact lsF_ok HNL.out
          have hbv : bS S = S.v := if_pos HOK2
          rw [hbv]
          have HS2 := Lib.hid HS2
          have HOK2 := Lib.hid HOK2
          clear hbv HSS
          go_wp2_with (first | ((with_reducible show wpList _ _ _ (Oper.mk _ (Op.load 70 _) _ _ _ _ :: _) _ _); refine loadA (K3) rfl rfl rfl ?_) | ((with_reducible show wpList _ _ _ (Oper.mk _ (Op.store 70 _ _) _ _ _ _ :: _) _ _); refine storeA (K2) rfl rfl rfl rfl ?_))
          try simp only [Exit.inBlock, Exit.then]
          refine retcttA (K2.row 3 _) rfl rfl rfl ⟨?_, below_setRow HB.out (by omega) _⟩
          rw [← HS2.out, HOK2.out]
          rfl
        | succ gk2 =>
          have hk8 : (k : Int) < (n : Int) := by omega
          have hk9 : k < n := by omega
          have hk0 : (0 : Int) ≤ (k : Int) := by omega
          obtain ⟨p, hkp⟩ := HGE.out k hk9
          have HPV : Hid (mk 3 (fun j => h (k * 3 + j)) = mk 3 (plF p)) := HAT.out k p hkp
          have HPO : Hid (PlOk f p) := HOK.out k p hkp
          have HT : Hid (L.take (k + 1) = L.take k ++ [p]) := HTK.out k p hkp
          have HPB : Hid (Vd (plB f p)) := plB_vd HV.out HPO.out
          clear hkp
          have HLE := movL_le (plB f p) 4
          have HCM : Hid (mvC f p = ((movL (plB f p) 4).length : Int)) := rfl
          by_cases hlt : mvC f p < bS S
          · have Y : Hid (lsStep (mvC f) S p = ⟨p, mvC f p, true⟩) := by
              refine lsStep_yes ?_
              unfold bS at hlt
              cases e : S.ok with
              | false => exact .inl rfl
              | true => rw [e] at hlt; exact .inr hlt
            rw [HCM.out] at hlt
            have hlb : decide (((movL (plB f p) 4).length : Int) < bS S) = true := decide_eq_true hlt
            generalize bS S = bs at *
            go_wp2_with fail
            refine wp_region_held_drew (S := fun W => Blk W w.heap.size 16 f 29 ∧ CAt W ga (n * 3) h) (by kernel_rfl) (⟨K1.drew, CM.drew⟩) (fun hHeld => ?_)
            have K1 : Blk wr.drew w.heap.size 16 f 29 := K1.drew
            have CM : CAt wr.drew ga (n * 3) h := CM.drew
            have BX : Hid (Below wr.heap.size wr wr.drew) := (Below.refl _ wr).drew
            generalize wr.drew = x0 at *
            refine wpAnyH_take (i := 0) (oi := { dst := some 29, op := _, type := _, pos := _, after := _, guard := _ }) (v := .agg (mk 16 f)) rfl (by kernel_rfl) (by kernel_rfl) (by kernel_rfl) (fun _ _ _ h => h) (Or.inl ⟨by rfl, fun _ q => execB q.1 rfl rfl⟩) (by assumption) ?_
            try simp only [Act.put, List.setIfInBounds_toArray, List.set_cons_zero, List.set_cons_succ]
            refine wpAnyH_take (i := 1) (oi := { dst := some 30, op := _, type := _, pos := _, after := _, guard := _ }) (v := .slice (some ⟨ga, 0, none⟩) n ca) rfl (by kernel_rfl) (by kernel_rfl) (by kernel_rfl) (fun _ _ _ h => h) (Or.inl ⟨by rfl, by intro w hSw; clear hSw; go_simp; (try with_reducible rfl)⟩) (by assumption) ?_
            try simp only [Act.put, List.setIfInBounds_toArray, List.set_cons_zero, List.set_cons_succ]
            refine wpAnyH_take (i := 2) (oi := { dst := some 31, op := _, type := _, pos := _, after := _, guard := _ }) (v := .int .i64 (k : Int)) rfl (by kernel_rfl) (by kernel_rfl) (by kernel_rfl) (fun _ _ _ h => h) (Or.inl ⟨by rfl, by intro w hSw; clear hSw; go_simp; (try with_reducible rfl)⟩) (by assumption) ?_
            try simp only [Act.put, List.setIfInBounds_toArray, List.set_cons_zero, List.set_cons_succ]
            refine wpAnyH_take (i := 3) (oi := { dst := some 32, op := _, type := _, pos := _, after := _, guard := _ }) (v := .pointer (some ⟨ga, k * 3, none⟩)) rfl (by kernel_rfl) (by kernel_rfl) (by kernel_rfl) (fun _ _ _ h => h) (Or.inl ⟨by rfl, by intro w hSw; clear hSw; go_simp; (try with_reducible rfl)⟩) (by assumption) ?_
            try simp only [Act.put, List.setIfInBounds_toArray, List.set_cons_zero, List.set_cons_succ]
            refine wpAnyH_take (i := 4) (oi := { dst := some 33, op := _, type := _, pos := _, after := _, guard := _ }) (v := .agg (mk 3 (plF p))) rfl (by kernel_rfl) (by kernel_rfl) (by kernel_rfl) (fun _ _ _ h => h) (Or.inl ⟨by rfl, by intro W q; rw [← HPV.out]; exact execAA q.2 (by omega) rfl rfl⟩) (by assumption) ?_
            try simp only [Act.put, List.setIfInBounds_toArray, List.set_cons_zero, List.set_cons_succ]
            refine wpAnyH_ready (rs := [5]) (by kernel_rfl) (by simp) ?_
            refine AllReadyH.cons rfl (fun K hK => ?_) AllReadyH.nil
            go_simp
            refine (putPl_any f p _ HPO.out).mono ?_
            rintro e x1 ⟨rfl, hb⟩
            have CM := CM.below hb
            have K1 := K1.below hb K1.lt
            have BX : Hid (Below wr.heap.size wr x1) := BX.out.trans (hb.mono BX.out.size)
            clear hb hHeld
            go_wp2_with fail
            refine hK.out _ _ ⟨K1, CM⟩ (fun hHeld => ?_)
            clear hK K
            try simp only [Act.put, List.setIfInBounds_toArray, List.set_cons_zero, List.set_cons_succ]
            refine wpAnyH_ready (rs := [6]) (by kernel_rfl) (by simp) ?_
            refine AllReadyH.cons rfl (fun K hK => ?_) AllReadyH.nil
            go_simp
            refine (l2Moves_any (plB f p) _ HPB.out).mono ?_
            rintro e x2 ⟨gm, cm, rfl, _, hb⟩
            have CM := CM.below hb
            have K1 := K1.below hb K1.lt
            have BX : Hid (Below wr.heap.size wr x2) := BX.out.trans (hb.mono BX.out.size)
            clear hb hHeld
            go_wp2_with fail
            refine hK.out _ _ ⟨K1, CM⟩ (fun hHeld => ?_)
            clear hK K
            try simp only [Act.put, List.setIfInBounds_toArray, List.set_cons_zero, List.set_cons_succ]
            refine wpAnyH_take (i := 7) (oi := { dst := some 36, op := _, type := _, pos := _, after := _, guard := _ }) (v := .int .i64 ((movL (plB f p) 4).length : Int)) rfl (by kernel_rfl) (by kernel_rfl) (by kernel_rfl) (fun _ _ _ h => h) (Or.inl ⟨by rfl, by intro w hSw; clear hSw; go_simp; (try with_reducible rfl)⟩) (by assumption) ?_
            try simp only [Act.put, List.setIfInBounds_toArray, List.set_cons_zero, List.set_cons_succ]
            refine wpAnyH_take (i := 8) (oi := { dst := some 9, op := _, type := _, pos := _, after := _, guard := _ }) (v := .int .i64 ((movL (plB f p) 4).length : Int)) rfl (by kernel_rfl) (by kernel_rfl) (by kernel_rfl) (fun _ _ _ h => h) (Or.inl ⟨by rfl, by intro w hSw; clear hSw; go_simp; (try with_reducible rfl)⟩) (by assumption) ?_
            try simp only [Act.put, List.setIfInBounds_toArray, List.set_cons_zero, List.set_cons_succ]
            refine wpAnyH_done (by kernel_rfl) ?_ _
            clear hHeld
            have K2 := K2.below BX.out K2.lt
            have K3 := K3.below BX.out K3.lt
            have HB : Hid (Below w.heap.size w x2) := HB.out.trans (BX.out.mono HB.out.size)
            clear BX
            have hcm := HCM.out
            generalize ((movL (plB f p) 4).length : Int) = cv at *
            go_wp2_with (first | ((with_reducible show wpList _ _ _ (Oper.mk _ (Op.load 70 _) _ _ _ _ :: _) _ _); refine loadAA (CM) (by omega) rfl rfl rfl ?_) | ((with_reducible show wpList _ _ _ (Oper.mk _ (Op.store 70 _ _) _ _ _ _ :: _) _ _); refine storeA (K3) rfl rfl rfl rfl ?_))
            have hsn : some ga ≠ some q := fun e => by have := Option.some.inj e; omega
            have CM := CM.grownP (grown_rowP K3 (mk 3 (fun j => h (k * 3 + j)))) hsn
            have K1 := K1.rowOther q (mk 3 (fun j => h (k * 3 + j))) (by omega)
            have K2 := K2.rowOther q (mk 3 (fun j => h (k * 3 + j))) (by omega)
            have K3 : Blk (x2.setRow q (mk 3 (fun j => h (k * 3 + j)))) q 3 (plF p) 70 := by rw [HPV.out]; exact K3.row 3 (plF p)
            have HB : Hid (Below w.heap.size w (x2.setRow q (mk 3 (fun j => h (k * 3 + j))))) := below_setRow HB.out (by omega) _
            go_roundg gk2
            case rel => exact ⟨k + 1, ⟨p, cv, true⟩, by omega, by go_num, by rw [HT.out, lsF_snoc, ← HSS.out, Y.out, hcm], rfl, K3, CM, K1, K2, HB⟩
            case measure => omega
          · have Y : Hid (lsStep (mvC f) S p = S) := by
              refine lsStep_no ?_
              unfold bS at hlt
              cases e : S.ok with
              | false => rw [e] at hlt; unfold mvC at hlt; simp at hlt; omega
              | true => rw [e] at hlt; rintro (q | q); · cases q
                        exact hlt q
            rw [HCM.out] at hlt
            have hbs : Hid (bS S = bS S) := rfl
            generalize hbS : bS S = bs at *
            have HbS := Lib.hid hbS
            clear hbS hbs
            go_wp2_with fail
            refine wp_region_held_drew (S := fun W => Blk W w.heap.size 16 f 29 ∧ CAt W ga (n * 3) h) (by kernel_rfl) (⟨K1.drew, CM.drew⟩) (fun hHeld => ?_)
            have K1 : Blk wr.drew w.heap.size 16 f 29 := K1.drew
            have CM : CAt wr.drew ga (n * 3) h := CM.drew
            have BX : Hid (Below wr.heap.size wr wr.drew) := (Below.refl _ wr).drew
            generalize wr.drew = x0 at *
            refine wpAnyH_take (i := 0) (oi := { dst := some 29, op := _, type := _, pos := _, after := _, guard := _ }) (v := .agg (mk 16 f)) rfl (by kernel_rfl) (by kernel_rfl) (by kernel_rfl) (fun _ _ _ h => h) (Or.inl ⟨by rfl, fun _ q => execB q.1 rfl rfl⟩) (by assumption) ?_
            try simp only [Act.put, List.setIfInBounds_toArray, List.set_cons_zero, List.set_cons_succ]
            refine wpAnyH_take (i := 1) (oi := { dst := some 30, op := _, type := _, pos := _, after := _, guard := _ }) (v := .slice (some ⟨ga, 0, none⟩) n ca) rfl (by kernel_rfl) (by kernel_rfl) (by kernel_rfl) (fun _ _ _ h => h) (Or.inl ⟨by rfl, by intro w hSw; clear hSw; go_simp; (try with_reducible rfl)⟩) (by assumption) ?_
            try simp only [Act.put, List.setIfInBounds_toArray, List.set_cons_zero, List.set_cons_succ]
            refine wpAnyH_take (i := 2) (oi := { dst := some 31, op := _, type := _, pos := _, after := _, guard := _ }) (v := .int .i64 (k : Int)) rfl (by kernel_rfl) (by kernel_rfl) (by kernel_rfl) (fun _ _ _ h => h) (Or.inl ⟨by rfl, by intro w hSw; clear hSw; go_simp; (try with_reducible rfl)⟩) (by assumption) ?_
            try simp only [Act.put, List.setIfInBounds_toArray, List.set_cons_zero, List.set_cons_succ]
            refine wpAnyH_take (i := 3) (oi := { dst := some 32, op := _, type := _, pos := _, after := _, guard := _ }) (v := .pointer (some ⟨ga, k * 3, none⟩)) rfl (by kernel_rfl) (by kernel_rfl) (by kernel_rfl) (fun _ _ _ h => h) (Or.inl ⟨by rfl, by intro w hSw; clear hSw; go_simp; (try with_reducible rfl)⟩) (by assumption) ?_
            try simp only [Act.put, List.setIfInBounds_toArray, List.set_cons_zero, List.set_cons_succ]
            refine wpAnyH_take (i := 4) (oi := { dst := some 33, op := _, type := _, pos := _, after := _, guard := _ }) (v := .agg (mk 3 (plF p))) rfl (by kernel_rfl) (by kernel_rfl) (by kernel_rfl) (fun _ _ _ h => h) (Or.inl ⟨by rfl, by intro W q; rw [← HPV.out]; exact execAA q.2 (by omega) rfl rfl⟩) (by assumption) ?_
            try simp only [Act.put, List.setIfInBounds_toArray, List.set_cons_zero, List.set_cons_succ]
            refine wpAnyH_ready (rs := [5]) (by kernel_rfl) (by simp) ?_
            refine AllReadyH.cons rfl (fun K hK => ?_) AllReadyH.nil
            go_simp
            refine (putPl_any f p _ HPO.out).mono ?_
            rintro e x1 ⟨rfl, hb⟩
            have CM := CM.below hb
            have K1 := K1.below hb K1.lt
            have BX : Hid (Below wr.heap.size wr x1) := BX.out.trans (hb.mono BX.out.size)
            clear hb hHeld
            go_wp2_with fail
            refine hK.out _ _ ⟨K1, CM⟩ (fun hHeld => ?_)
            clear hK K
            try simp only [Act.put, List.setIfInBounds_toArray, List.set_cons_zero, List.set_cons_succ]
            refine wpAnyH_ready (rs := [6]) (by kernel_rfl) (by simp) ?_
            refine AllReadyH.cons rfl (fun K hK => ?_) AllReadyH.nil
            go_simp
            refine (l2Moves_any (plB f p) _ HPB.out).mono ?_
            rintro e x2 ⟨gm, cm, rfl, _, hb⟩
            have CM := CM.below hb
            have K1 := K1.below hb K1.lt
            have BX : Hid (Below wr.heap.size wr x2) := BX.out.trans (hb.mono BX.out.size)
            clear hb hHeld
            go_wp2_with fail
            refine hK.out _ _ ⟨K1, CM⟩ (fun hHeld => ?_)
            clear hK K
            try simp only [Act.put, List.setIfInBounds_toArray, List.set_cons_zero, List.set_cons_succ]
            refine wpAnyH_take (i := 7) (oi := { dst := some 36, op := _, type := _, pos := _, after := _, guard := _ }) (v := .int .i64 ((movL (plB f p) 4).length : Int)) rfl (by kernel_rfl) (by kernel_rfl) (by kernel_rfl) (fun _ _ _ h => h) (Or.inl ⟨by rfl, by intro w hSw; clear hSw; go_simp; (try with_reducible rfl)⟩) (by assumption) ?_
            try simp only [Act.put, List.setIfInBounds_toArray, List.set_cons_zero, List.set_cons_succ]
            refine wpAnyH_take (i := 8) (oi := { dst := some 9, op := _, type := _, pos := _, after := _, guard := _ }) (v := .int .i64 ((movL (plB f p) 4).length : Int)) rfl (by kernel_rfl) (by kernel_rfl) (by kernel_rfl) (fun _ _ _ h => h) (Or.inl ⟨by rfl, by intro w hSw; clear hSw; go_simp; (try with_reducible rfl)⟩) (by assumption) ?_
            try simp only [Act.put, List.setIfInBounds_toArray, List.set_cons_zero, List.set_cons_succ]
            refine wpAnyH_done (by kernel_rfl) ?_ _
            clear hHeld
            have K2 := K2.below BX.out K2.lt
            have K3 := K3.below BX.out K3.lt
            have HB : Hid (Below w.heap.size w x2) := HB.out.trans (BX.out.mono HB.out.size)
            clear BX
            go_wp2_with fail
            go_roundg gk2
            case rel => exact ⟨k + 1, S, by omega, by go_num, by rw [HT.out, lsF_snoc, ← HSS.out, Y.out], by rw [HbS.out], K3, CM, K1, K2, HB⟩
            case measure => omega
  · rw [wtR_no hV]
    have HV := Lib.hid hV
    have hz := mk_plF0
    clear hV
    show Calls _ _ _ _ fun e w' => e = .returned (.tuple #[.agg (mk 3 (plF (0, 0))), .int .i64 0, .bool false]) ∧ _
    rw [hz]
    clear hz
    go_enter Try.func63, Try.ntmps63
    go_wp2_with ((with_reducible show wpList _ _ _ (Oper.mk _ (Op.load 29 _) _ _ _ _ :: _) _ _); refine loadB (K1) rfl rfl rfl ?_)
    refine (l2Board_no _ _ HV.out).mono ?_
    rintro e w1 ⟨rfl, hb⟩
    have K2 := K2.below hb K2.lt
    have HB : Hid (Below w.heap.size w w1) := HB.out.trans (hb.mono HB.out.size)
    clear hb K1
    go_wp2_with ((with_reducible show wpList _ _ _ (Oper.mk _ (Op.store 70 _ _) _ _ _ _ :: _) _ _); refine storeA (K2) rfl rfl rfl rfl ?_)
    try simp only [Exit.inBlock, Exit.then]
    exact retcttA (K2.row 3 _) rfl rfl rfl ⟨rfl, below_setRow HB.out (by omega) _⟩
end Go.Proofs.Ytlboglcpbbnbcab
